package tests

import (
	"fmt"
	"math"
	"slices"
	"testing"

	"loop.example/g01266/impl"
)

// withBranches has the functions of chapter 7 that require whirls, with other arguments that are valid.
func withBranches() map[string]func(list []impl.Whirl) string {
	points := manyTracers(3)
	return map[string]func(list []impl.Whirl) string{
		"CarryTracers":  func(l []impl.Whirl) string { return toldFlows(impl.CarryTracers(l, points, 0.5, 0.1)) },
		"no tracers":    func(l []impl.Whirl) string { return toldFlows(impl.CarryTracers(l, nil, 0.5, 0.1)) },
		"CarryBoth":     func(l []impl.Whirl) string { return toldBoth(impl.CarryBoth(l, points, 0.5, 0.1)) },
		"RunTracers":    func(l []impl.Whirl) string { return toldBoth(impl.RunTracers(l, points, 0.5, 0.1, 1)) },
		"no steps":      func(l []impl.Whirl) string { return toldBoth(impl.RunTracers(l, nil, 0.5, 0.1, 0)) },
		"StretchOf":     func(l []impl.Whirl) string { return toldNumber(impl.StretchOf(l, 1, 1, 0.5, 0.1, 1)) },
		"MomentsOf":     func(l []impl.Whirl) string { return toldMoments(impl.MomentsOf(l, 1)) },
		"TreeOf":        func(l []impl.Whirl) string { return toldTree(impl.TreeOf(l)) },
		"FlowByTree":    func(l []impl.Whirl) string { return toldComplex(impl.FlowByTree(l, 9, 0.5, 1)) },
		"TermsOf":       func(l []impl.Whirl) string { return toldTerms(impl.TermsOf(l, 9, 1)) },
		"FlowsByTree":   func(l []impl.Whirl) string { return toldFlows(impl.FlowsByTree(l, points, 0.5, 1)) },
		"FlowsShared":   func(l []impl.Whirl) string { return toldFlows(impl.FlowsShared(l, points, 0.5, 1, 2)) },
		"no points":     func(l []impl.Whirl) string { return toldFlows(impl.FlowsByTree(l, nil, 0.5, 1)) },
		"none to share": func(l []impl.Whirl) string { return toldFlows(impl.FlowsShared(l, nil, 0.5, 1, 2)) },
		"TreeMiss":      func(l []impl.Whirl) string { return toldNumber(impl.TreeMiss(l, 9, 0.5, 1)) },
	}
}

// TestWhirlsOfTrees: functions take as many whirls as there can be, and fail with lists that are none of whirls.
func TestWhirlsOfTrees(t *testing.T) {
	for name, call := range withBranches() {
		for _, count := range []int{1, 4, impl.MaxWhirls} {
			if got := call(manyWhirls(count)); got == "no" {
				t.Errorf("%s fails with %d whirls", name, count)
			}
		}
		for _, none := range [][]impl.Whirl{nil, {}} {
			wantBool(t, name+" fails without whirls", call(none) == "no", name == "TreeOf")
		}
		for i, list := range oddLists() {
			wantTold(t, fmt.Sprint(name, " of list ", i), call(list), "no")
		}
	}
}

func TestMoments(t *testing.T) {
	for _, none := range [][]impl.Whirl{nil, {}} {
		wantTold(t, "none", toldMoments(impl.MomentsOf(none, complex(3, minusZero))), "00000000 00000000 00000000")
	}
	list := []impl.Whirl{whirl(1, 2, 3), whirl(-4, 0.5, -2), whirl(0, 0, 0.25)}
	wantTold(t, "around 0", toldMoments(impl.MomentsOf(list, 0)), wordsOf([]float32{1.25, 11, 5}))
	wantTold(t, "around another point", toldMoments(impl.MomentsOf(list, complex(2, -4))), wordsOf([]float32{1.25, 8.5, 10}))
	wantTold(t, "from left to right", toldMoments(impl.MomentsOf([]impl.Whirl{whirl(1, 0, 1), whirl(1, 0, 1e8), whirl(1, 0, -1e8)}, 0)), "00000000 00000000 00000000")
	wantTold(t, "zeros with signs", toldMoments(impl.MomentsOf([]impl.Whirl{whirl(minusZero, minusZero, minusZero)}, 0)), "00000000 00000000 00000000")
	wantTold(t, "spins that are not finite together", toldMoments(impl.MomentsOf([]impl.Whirl{whirl(0, 0, 3e38), whirl(0, 0, 3e38)}, 0)), "no")
	wantTold(t, "a moment that is not finite", toldMoments(impl.MomentsOf([]impl.Whirl{whirl(0, 2, 3e38)}, 0)), "no")
	wantTold(t, "a sum of moments that is not", toldMoments(impl.MomentsOf([]impl.Whirl{whirl(1, 0, 2e38), whirl(-1, 0, -2e38)}, 0)), "no")
	wantTold(t, "a way that is not", toldMoments(impl.MomentsOf([]impl.Whirl{whirl(3e38, 0, 0)}, -3e38)), "no")
	wantTold(t, "great numbers", toldMoments(impl.MomentsOf([]impl.Whirl{whirl(3e38, 0, 1)}, 0)), wordsOf([]float32{1, 3e38, 0}))
	for _, odd := range oddTicks() {
		for _, list := range [][]impl.Whirl{nil, {whirl(1, 2, 3)}} {
			wantTold(t, "an odd real part", toldMoments(impl.MomentsOf(list, complex(odd, 0))), "no")
			wantTold(t, "an odd imaginary part", toldMoments(impl.MomentsOf(list, complex(0, odd))), "no")
		}
	}
}

// node makes a node with the spin and the moment of its whirls, as MomentsOf tells them.
func node(t *testing.T, list []impl.Whirl, depth int64, centre complex64, half float32, indices []int64, next ...int64) impl.Node {
	t.Helper()
	var whirls []impl.Whirl
	for _, i := range indices {
		whirls = append(whirls, list[i])
	}
	spin, moment, ok := impl.MomentsOf(whirls, centre)
	wantBool(t, "moments", ok, true)
	return impl.Node{Centre: centre, Half: half, Depth: depth, Whirls: indices, Next: next, Spin: spin, Moment: moment}
}

func wantTree(t *testing.T, what string, list []impl.Whirl, want ...impl.Node) {
	t.Helper()
	got, ok := impl.TreeOf(list)
	wantTold(t, what, toldTree(got, ok), toldTree(want, true))
}

func TestLeafTrees(t *testing.T) {
	one := []impl.Whirl{whirl(3, -4, 2)}
	wantTree(t, "one whirl", one, node(t, one, 0, complex(3, -4), 0, []int64{0}))
	two := []impl.Whirl{whirl(1, 5, 2), whirl(-5, 6, -1)}
	wantTree(t, "two whirls", two, node(t, two, 0, complex(-2, 5.5), 3, []int64{0, 1}))
	high := []impl.Whirl{whirl(1, 5, 2), whirl(2, -6, -1), whirl(1.5, 0, 1)}
	wantTree(t, "as many as a leaf has", high, node(t, high, 0, complex(1.5, -0.5), 5.5, []int64{0, 1, 2}))
	same := []impl.Whirl{whirl(1, 1, 1), whirl(1, 1, 2), whirl(1, 1, 3), whirl(1, 1, 4), whirl(1, 1, 5)}
	wantTree(t, "all at one place", same, node(t, same, 0, complex(1, 1), 0, []int64{0, 1, 2, 3, 4}))
	many := make([]impl.Whirl, impl.MaxWhirls)
	nodes := mustTree(t)(impl.TreeOf(many))
	wantBool(t, "as many as there can be at one place", len(nodes) == 1 && len(nodes[0].Whirls) == impl.MaxWhirls && nodes[0].Half == 0, true)
}

// TestCentresWithoutSigns: a zero in the first Centre is +0.
func TestCentresWithoutSigns(t *testing.T) {
	for _, list := range [][]impl.Whirl{
		{whirl(minusZero, minusZero, 1)}, {whirl(minusZero, 0, 1), whirl(0, minusZero, 1)}, {whirl(0, minusZero, 1), whirl(minusZero, 0, 1)},
		{whirl(-3, 2, 1), whirl(3, -2, 1)}, {whirl(at(signBit+1), 0, 1), whirl(0, at(signBit+1), 1)}, {whirl(at(1), at(1), 1), whirl(0, 0, 1)},
	} {
		nodes := mustTree(t)(impl.TreeOf(list))
		wantTold(t, fmt.Sprint("the Centre of ", list), wordsOf(parts(nodes[0].Centre)), "00000000 00000000")
		wantBool(t, "its Half has no sign", bitsOf(nodes[0].Half)&signBit == 0, true)
	}
}

// square has a whirl in each corner of a square around a point.
func square(x, y, half float32) []impl.Whirl {
	return []impl.Whirl{whirl(x-half, y-half, 1), whirl(x+half, y-half, 2), whirl(x-half, y+half, 3), whirl(x+half, y+half, 4)}
}

func TestDividedTrees(t *testing.T) {
	list := square(10, 20, 4)
	wantTree(t, "one more than a leaf has", list,
		node(t, list, 0, complex(10, 20), 4, []int64{0, 1, 2, 3}, 1, 2, 3, 4),
		node(t, list, 1, complex(8, 18), 2, []int64{0}), node(t, list, 1, complex(12, 18), 2, []int64{1}),
		node(t, list, 1, complex(8, 22), 2, []int64{2}), node(t, list, 1, complex(12, 22), 2, []int64{3}))
	slices.Reverse(list)
	wantTree(t, "in the opposite order", list,
		node(t, list, 0, complex(10, 20), 4, []int64{0, 1, 2, 3}, 1, 2, 3, 4),
		node(t, list, 1, complex(8, 18), 2, []int64{3}), node(t, list, 1, complex(12, 18), 2, []int64{2}),
		node(t, list, 1, complex(8, 22), 2, []int64{1}), node(t, list, 1, complex(12, 22), 2, []int64{0}))
	// The whirls on the lines that divide, and at the centre, go to the greater side.
	lines := []impl.Whirl{whirl(0, -4, 1), whirl(-4, 0, 2), whirl(0, 0, 3), whirl(4, 0, 4), whirl(0, 4, 5), whirl(minusZero, minusZero, 6)}
	wantTree(t, "on the lines that divide", lines,
		node(t, lines, 0, 0, 4, []int64{0, 1, 2, 3, 4, 5}, 1, 2, 3),
		node(t, lines, 1, complex(2, -2), 2, []int64{0}), node(t, lines, 1, complex(-2, 2), 2, []int64{1}),
		node(t, lines, 1, complex(2, 2), 2, []int64{2, 3, 4, 5}, 4, 5, 6),
		node(t, lines, 2, complex(1, 1), 1, []int64{2, 5}), node(t, lines, 2, complex(3, 1), 1, []int64{3}), node(t, lines, 2, complex(1, 3), 1, []int64{4}))
}

// TestWholeTreesBehindNodes: further quarters come behind all that stands behind the first ones.
func TestWholeTreesBehindNodes(t *testing.T) {
	list := append(square(-12, -12, 4), square(12, 12, 4)...)
	list = append(list, whirl(16, -16, 7))
	nodes := mustTree(t)(impl.TreeOf(list))
	var told []string
	for _, n := range nodes {
		told = append(told, fmt.Sprint(n.Depth, n.Centre, n.Half, n.Whirls, n.Next))
	}
	want := []string{
		"0 (0+0i) 16 [0 1 2 3 4 5 6 7 8] [1 6 7]",
		"1 (-8-8i) 8 [0 1 2 3] [2 3 4 5]",
		"2 (-12-12i) 4 [0] []", "2 (-4-12i) 4 [1] []", "2 (-12-4i) 4 [2] []", "2 (-4-4i) 4 [3] []",
		"1 (8-8i) 8 [8] []",
		"1 (8+8i) 8 [4 5 6 7] [8]",
		"2 (12+12i) 4 [4 5 6 7] [9 10 11 12]",
		"3 (10+10i) 2 [4] []", "3 (14+10i) 2 [5] []", "3 (10+14i) 2 [6] []", "3 (14+14i) 2 [7] []",
	}
	wantTold(t, "the nodes", fmt.Sprint(told), fmt.Sprint(want))
}

// TestDeepTrees: nodes of the depth MaxDepth are leaves, however many whirls they have.
func TestDeepTrees(t *testing.T) {
	for _, count := range []int{4, 5, 6, 9, impl.MaxWhirls} {
		list := nearWhirls(count)
		nodes := mustTree(t)(impl.TreeOf(list))
		depth, ok := impl.DepthOfTree(nodes)
		// All but the first two whirls are within one node of the depth 6, whose Half is 1.
		deep := slices.IndexFunc(nodes, func(n impl.Node) bool { return n.Depth == impl.MaxDepth })
		isDeep := count-2 > impl.LeafSize
		wantBool(t, fmt.Sprint("how deep ", count, " whirls go"), ok && (depth == impl.MaxDepth) == isDeep, true)
		if isDeep {
			n := nodes[deep]
			wantBool(t, fmt.Sprint("the deepest leaf of ", count), len(n.Whirls) == count-2 && len(n.Next) == 0 && n.Half == 1 && n.Centre == complex(1, 1), true)
		}
	}
}

// TestNodesWithoutHalf: where Half has become 0, nothing is divided any more.
func TestNodesWithoutHalf(t *testing.T) {
	spins := func(a, b float32) []impl.Whirl {
		return []impl.Whirl{whirl(a, a, 1), whirl(b, b, 1), whirl(b, a, 1), whirl(a, b, 1)}
	}
	nodes := mustTree(t)(impl.TreeOf(spins(0, at(1))))
	wantBool(t, "half of the least number", len(nodes) == 1 && nodes[0].Half == 0, true)
	nodes = mustTree(t)(impl.TreeOf(spins(0, at(2))))
	wantBool(t, "twice the least number", len(nodes) == 5 && nodes[0].Half == at(1) && nodes[0].Centre == complex(at(1), at(1)), true)
	for _, n := range nodes[1:] {
		wantBool(t, "the least Half is divided", n.Half == 0 && n.Centre == nodes[0].Centre && n.Depth == 1, true)
	}
	// The whirls of one quarter are too many for a leaf, but it has no Half.
	list := append(spins(0, at(2)), spins(at(2), at(2))...)
	nodes = mustTree(t)(impl.TreeOf(list))
	last := nodes[len(nodes)-1]
	wantBool(t, "no Half", len(nodes) == 5 && len(last.Whirls) == 5 && last.Half == 0 && len(last.Next) == 0, true)
}

func TestTreesThatAreNotFinite(t *testing.T) {
	wantNoTree := func(what string, list ...impl.Whirl) {
		t.Helper()
		wantTold(t, what, toldTree(impl.TreeOf(list)), "no")
		for _, open := range []float32{0, 1} {
			wantTold(t, what+", the flow", toldComplex(impl.FlowByTree(list, 5, 1, open)), "no")
			wantTold(t, what+", the terms", toldTerms(impl.TermsOf(list, 5, open)), "no")
			wantTold(t, what+", no flows", toldFlows(impl.FlowsByTree(list, nil, 1, open)), "no")
			wantTold(t, what+", none shared", toldFlows(impl.FlowsShared(list, nil, 1, open, 3)), "no")
			wantTold(t, what+", the miss", toldNumber(impl.TreeMiss(list, 5, 1, open)), "no")
		}
	}
	wantNoTree("a Centre", whirl(3e38, 0, 0))
	wantNoTree("an imaginary Centre", whirl(0, -3e38, 0), whirl(0, -1e38, 0))
	wantNoTree("a Half", whirl(3e38, 0, 0), whirl(-3e38, 0, 0))
	wantNoTree("an imaginary Half", whirl(0, 2e38, 0), whirl(0, -2e38, 0))
	wantNoTree("a Spin", whirl(0, 0, 3e38), whirl(0, 0, 3e38))
	wantNoTree("a Moment", whirl(0, 0, 3e38), whirl(8, 0, 0))
	// The first node has no moment at all, but one of its quarters has no finite one.
	middle := []impl.Whirl{whirl(0, 0, 3e38), whirl(-8, -8, 0), whirl(8, 8, 0), whirl(-8, 8, 0)}
	wantNoTree("the Moment of a quarter", middle...)
	wantBool(t, "which no leaf has", toldTree(impl.TreeOf(middle[:3])) != "no", true)
	great := []impl.Whirl{whirl(1.7e38, 1.7e38, 1), whirl(-1.6e38, 1.7e38, 1), whirl(1.7e38, 1.6e38, 1), whirl(0, 1.6e38, 1)}
	wantBool(t, "great but finite", toldTree(impl.TreeOf(great)) != "no", true)
}

// TestDepthsAndLeaves: both take any nodes, if these are not too few or too many.
func TestDepthsAndLeaves(t *testing.T) {
	for _, count := range []int{0, 513, 5000} {
		wantTold(t, fmt.Sprint("the depth of ", count), toldInteger(impl.DepthOfTree(make([]impl.Node, count))), "no")
		wantTold(t, fmt.Sprint("the leaves of ", count), toldIntegers(impl.LeavesOf(make([]impl.Node, count))), "no")
	}
	for _, count := range []int{1, 2, 511, 512} {
		nodes := make([]impl.Node, count)
		nodes[count-1].Depth = 9
		var all []int64
		for i := range nodes {
			all = append(all, int64(i))
		}
		wantTold(t, fmt.Sprint("the depth of ", count), toldInteger(impl.DepthOfTree(nodes)), toldInteger(9, true))
		wantIntegers(t, fmt.Sprint("the leaves of ", count), all...)(impl.LeavesOf(nodes))
	}
	depth, ok := impl.DepthOfTree(nodeList(math.MinInt64, 0))
	wantBool(t, "the least depth", ok && depth == math.MinInt64, true)
	depth, ok = impl.DepthOfTree(nodeList(-7, 0, math.MaxInt64, 1, 3, 0))
	wantBool(t, "the greatest depth", ok && depth == math.MaxInt64, true)
	depth, ok = impl.DepthOfTree(nodeList(-7, 0, -9, 1, -8, 0))
	wantBool(t, "depths less than 0", ok && depth == -7, true)
	wantIntegers(t, "what has Next is no leaf", 0, 3)(impl.LeavesOf(nodeList(5, 0, 5, 1, 5, 4, 5, 0, 5, 9)))
	wantIntegers(t, "no leaf at all")(impl.LeavesOf(nodeList(0, 1, 0, 2)))
	odd := []impl.Node{{Next: []int64{}, Half: at(noNumber), Whirls: []int64{-5, math.MaxInt64}}, {Next: []int64{math.MinInt64}, Spin: at(infinity)}}
	wantIntegers(t, "odd numbers", 0)(impl.LeavesOf(odd))
	wantTold(t, "the depth of odd nodes", toldInteger(impl.DepthOfTree(odd)), toldInteger(0, true))
	for _, list := range [][]impl.Whirl{manyWhirls(4), spreadWhirls(impl.MaxWhirls), nearWhirls(12)} {
		nodes := mustTree(t)(impl.TreeOf(list))
		deepest, leaves := int64(0), []int64(nil)
		for i, n := range nodes {
			deepest = max(deepest, n.Depth)
			if len(n.Next) == 0 {
				leaves = append(leaves, int64(i))
			}
		}
		wantTold(t, "a tree", toldInteger(impl.DepthOfTree(nodes)), toldInteger(deepest, true))
		wantIntegers(t, "its leaves", leaves...)(impl.LeavesOf(nodes))
	}
}
