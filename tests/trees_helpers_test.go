package tests

import (
	"strings"
	"testing"

	"loop.example/g01266/impl"
)

// countedWhirls makes whirls of how many they are and their numbers, and returns the numbers behind them.
func countedWhirls(in []float32) ([]impl.Whirl, []float32) {
	end := 1 + 3*int(in[0])
	return whirlsOf(in[1:end]), in[end:]
}

// seedOf makes a seed of what is above 16 bits and these: a 32-bit number tells both exactly.
func seedOf(in []float32, i int) int64 { return int64(in[i])*65536 + int64(in[i+1]) }

func manyTracers(count int) []complex64 {
	var list []complex64
	for i := range count {
		list = append(list, complex(float32(i%9)*0.75-3, float32(i*i%11)*0.5-2.5))
	}
	return list
}

// spreadWhirls has whirls no two of which are at one place.
func spreadWhirls(count int) []impl.Whirl {
	var list []impl.Whirl
	for i := range count {
		list = append(list, whirl(float32(i*i%37)*0.375-6, float32(i*7%32)*0.25-4, 0.75-0.5*float32(i%5)))
	}
	return list
}

// nearWhirls has whirls that only the deepest nodes part from one another.
func nearWhirls(count int) []impl.Whirl {
	list := []impl.Whirl{whirl(-64, -64, 1), whirl(64, 64, 1)}
	for i := range count - len(list) {
		list = append(list, whirl(1+float32(i)/1024, 1, 1))
	}
	return list
}

// nodeList makes nodes of their depths, which are leaves where the number behind the depth is 0.
func nodeList(depthsAndNext ...int64) []impl.Node {
	var nodes []impl.Node
	for i := 0; i < len(depthsAndNext); i += 2 {
		nodes = append(nodes, impl.Node{Depth: depthsAndNext[i], Next: make([]int64, depthsAndNext[i+1])})
	}
	return nodes
}

func floatsOf(list []int64) []float32 {
	var floats []float32
	for _, n := range list {
		floats = append(floats, float32(n))
	}
	return floats
}

func numbersOfNode(n impl.Node) []float32 {
	all := []float32{float32(n.Depth), n.Half, real(n.Centre), imag(n.Centre), n.Spin, real(n.Moment), imag(n.Moment)}
	for _, list := range [][]int64{n.Whirls, n.Next} {
		all = append(all, float32(len(list)))
		all = append(all, floatsOf(list)...)
	}
	return all
}

// The functions toldX tell what functions of chapter 7 return, with no for a failure. Integers are told as numbers, which are exact.

func toldNoise(list []complex64, seed int64, ok bool) string {
	words := wordsOf([]float32{float32(seed / 65536), float32(seed % 65536)}) + " " + toldFlows(list, true)
	return told(strings.TrimSpace(words), ok)
}

func toldBoth(list []impl.Whirl, tracers []complex64, ok bool) string {
	return told(strings.TrimSpace(wordsOfWhirls(list)+" "+toldFlows(tracers, true)), ok)
}

func toldIntegers(list []int64, ok bool) string { return told(wordsOf(floatsOf(list)), ok) }

func toldTerms(far, near int64, ok bool) string { return toldIntegers([]int64{far, near}, ok) }

func toldMoments(spin float32, moment complex64, ok bool) string {
	return told(wordsOf([]float32{spin, real(moment), imag(moment)}), ok)
}

func toldTree(nodes []impl.Node, ok bool) string {
	var all []float32
	for _, n := range nodes {
		all = append(all, numbersOfNode(n)...)
	}
	return told(wordsOf(all), ok)
}

func toldInteger(n int64, ok bool) string { return toldIntegers([]int64{n}, ok) }

func wantTracers(t *testing.T, what string, want ...complex64) func(got []complex64, ok bool) {
	return func(got []complex64, ok bool) {
		t.Helper()
		wantTold(t, what, toldFlows(got, ok), toldFlows(want, true))
	}
}

func wantNoTracers(t *testing.T, what string) func(got []complex64, ok bool) {
	return func(got []complex64, ok bool) {
		t.Helper()
		wantTold(t, what, toldFlows(got, ok), "no")
	}
}

func wantIntegers(t *testing.T, what string, want ...int64) func(got []int64, ok bool) {
	return func(got []int64, ok bool) {
		t.Helper()
		wantTold(t, what, toldIntegers(got, ok), toldIntegers(want, true))
	}
}

func wantTerms(t *testing.T, what string, far, near int64) func(gotFar, gotNear int64, ok bool) {
	return func(gotFar, gotNear int64, ok bool) {
		t.Helper()
		wantTold(t, what, toldTerms(gotFar, gotNear, ok), toldTerms(far, near, true))
	}
}

func mustTracers(t *testing.T) func([]complex64, bool) []complex64 { return must[[]complex64](t) }

func mustIntegers(t *testing.T) func([]int64, bool) []int64 { return must[[]int64](t) }

func mustTree(t *testing.T) func([]impl.Node, bool) []impl.Node { return must[[]impl.Node](t) }

// treeCalls has the functions of chapter 7 that tell new numbers.
func treeCalls() map[string]func(in []float32) string {
	return map[string]func(in []float32) string{
		"AreTracers": func(in []float32) string { return toldBool(impl.AreTracers(complexList(in))) },
		"NoiseTracers": func(in []float32) string {
			return toldNoise(impl.NoiseTracers(int64(in[0]), in[1], seedOf(in, 2)))
		},
		"CarryTracers": func(in []float32) string {
			list, points := countedWhirls(in[2:])
			return toldFlows(impl.CarryTracers(list, complexList(points), in[0], in[1]))
		},
		"CarryBoth": func(in []float32) string {
			list, points := countedWhirls(in[2:])
			return toldBoth(impl.CarryBoth(list, complexList(points), in[0], in[1]))
		},
		"RunTracers": func(in []float32) string {
			list, points := countedWhirls(in[3:])
			return toldBoth(impl.RunTracers(list, complexList(points), in[0], in[1], int64(in[2])))
		},
		"MiddleOfTracers": func(in []float32) string { return toldComplex(impl.MiddleOfTracers(complexList(in))) },
		"SpreadOfTracers": func(in []float32) string { return toldNumber(impl.SpreadOfTracers(complexList(in))) },
		"NearShare": func(in []float32) string {
			return toldNumber(impl.NearShare(complexList(in[3:]), complexOf(in, 0), in[2]))
		},
		"BoxesOfTracers": func(in []float32) string {
			return toldIntegers(impl.BoxesOfTracers(complexList(in[2:]), in[0], int64(in[1])))
		},
		"StretchOf": func(in []float32) string {
			return toldNumber(impl.StretchOf(whirlsOf(in[7:]), complexOf(in, 0), complexOf(in, 2), in[4], in[5], int64(in[6])))
		},
		"MomentsOf": func(in []float32) string { return toldMoments(impl.MomentsOf(whirlsOf(in[2:]), complexOf(in, 0))) },
		"TreeOf":    func(in []float32) string { return toldTree(impl.TreeOf(whirlsOf(in))) },
		"FarFlow": func(in []float32) string {
			n := impl.Node{Centre: complexOf(in, 0), Spin: in[2], Moment: complexOf(in, 3)}
			return toldComplex(impl.FarFlow(n, complexOf(in, 5)))
		},
		"FlowByTree": func(in []float32) string {
			return toldComplex(impl.FlowByTree(whirlsOf(in[4:]), complexOf(in, 0), in[2], in[3]))
		},
		"TermsOf": func(in []float32) string { return toldTerms(impl.TermsOf(whirlsOf(in[3:]), complexOf(in, 0), in[2])) },
		"FlowsByTree": func(in []float32) string {
			list, points := countedWhirls(in[2:])
			return toldFlows(impl.FlowsByTree(list, complexList(points), in[0], in[1]))
		},
		"FlowsShared": func(in []float32) string {
			list, points := countedWhirls(in[3:])
			return toldFlows(impl.FlowsShared(list, complexList(points), in[0], in[1], int64(in[2])))
		},
		"TreeMiss": func(in []float32) string {
			return toldNumber(impl.TreeMiss(whirlsOf(in[4:]), complexOf(in, 0), in[2], in[3]))
		},
	}
}
