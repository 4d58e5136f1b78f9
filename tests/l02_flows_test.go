package tests

import (
	"fmt"
	"slices"
	"testing"

	"loop.example/g01266/impl"
)

func TestConstantsOfChapter2(t *testing.T) {
	if got := fmt.Sprint(impl.MaxWhirls, impl.MaxRun); got != "32 128" {
		t.Errorf("constants: got %s", got)
	}
}

// TestExamplesOfChapter2 asserts every example at the end of chapter 2.
func TestExamplesOfChapter2(t *testing.T) {
	list := []impl.Whirl{whirl(0, 0, turn)}
	wantTold(t, "the flow at 1", toldComplex(impl.FlowAt(list, 1, 0)), "00000000 3f800000")
	wantTold(t, "the flow at 2 i", toldComplex(impl.FlowAt(list, complex(0, 2), 0)), "bf000000 00000000")
	pair := mustWhirls(t)(impl.PairOfWhirls(2, turn))
	wantWhirls(t, "the pair", whirl(1, 0, turn), whirl(-1, minusZero, -turn))(pair, true)
	for _, tick := range []float32{1, 0.25, -3} {
		behind := mustWhirls(t)(impl.StepWhirls(pair, 0, tick))
		for i, w := range behind {
			wantNear(t, "how far the pair goes", w.At-pair[i].At, complex(0, -tick/2), 1e-6)
		}
	}
}

func TestWhirlRows(t *testing.T) {
	wantToldRows(t, "FlowAt", flowRows, func(in []float32) string {
		return toldComplex(impl.FlowAt(whirlsOf(in[3:]), complexOf(in, 0), in[2]))
	})
	wantToldRows(t, "StreamAt", streamRows, func(in []float32) string {
		return toldNumber(impl.StreamAt(whirlsOf(in[3:]), complexOf(in, 0), in[2]))
	})
	wantToldRows(t, "FlowsOf", flowsRows, func(in []float32) string { return toldFlows(impl.FlowsOf(whirlsOf(in[1:]), in[0])) })
	wantToldRows(t, "StepWhirls", stepRows, func(in []float32) string {
		return toldWhirls(impl.StepWhirls(whirlsOf(in[2:]), in[0], in[1]))
	})
	wantToldRows(t, "HalvedWhirls", halvedRows, func(in []float32) string {
		return toldHalved(impl.HalvedWhirls(whirlsOf(in[3:]), in[0], in[1], in[2]))
	})
	wantToldRows(t, "RunWhirls", runRows, func(in []float32) string {
		return toldWhirls(impl.RunWhirls(whirlsOf(in[3:]), in[0], in[1], int64(in[2])))
	})
}

// withLists has the functions that require whirls, with other arguments that are valid.
func withLists() map[string]func(list []impl.Whirl) string {
	return map[string]func(list []impl.Whirl) string{
		"FlowAt":         func(l []impl.Whirl) string { return toldComplex(impl.FlowAt(l, complex(9, 9), 0.5)) },
		"StreamAt":       func(l []impl.Whirl) string { return toldNumber(impl.StreamAt(l, complex(9, 9), 0.5)) },
		"FlowsOf":        func(l []impl.Whirl) string { return toldFlows(impl.FlowsOf(l, 0.5)) },
		"StepWhirls":     func(l []impl.Whirl) string { return toldWhirls(impl.StepWhirls(l, 0.5, 0.1)) },
		"HalvedWhirls":   func(l []impl.Whirl) string { return toldHalved(impl.HalvedWhirls(l, 0.5, 0.1, 9)) },
		"RunWhirls":      func(l []impl.Whirl) string { return toldWhirls(impl.RunWhirls(l, 0.5, 0.1, 0)) },
		"TotalSpin":      func(l []impl.Whirl) string { return toldNumber(impl.TotalSpin(l)) },
		"ImpulseOf":      func(l []impl.Whirl) string { return toldComplex(impl.ImpulseOf(l)) },
		"MomentOfSpin":   func(l []impl.Whirl) string { return toldNumber(impl.MomentOfSpin(l)) },
		"EnergyOfWhirls": func(l []impl.Whirl) string { return toldNumber(impl.EnergyOfWhirls(l)) },
		"CentreOfWhirls": func(l []impl.Whirl) string { return toldComplex(impl.CentreOfWhirls(l)) },
		"MoveWhirls":     func(l []impl.Whirl) string { return toldWhirls(impl.MoveWhirls(l, 1)) },
		"TurnWhirls":     func(l []impl.Whirl) string { return toldWhirls(impl.TurnWhirls(l, 0.1)) },
		"MirrorWhirls":   func(l []impl.Whirl) string { return toldWhirls(impl.MirrorWhirls(l)) },
		"ScaleSpins":     func(l []impl.Whirl) string { return toldWhirls(impl.ScaleSpins(l, 2)) },
		"WallImages":     func(l []impl.Whirl) string { return toldWhirls(impl.WallImages(l)) },
		"CircleImages":   func(l []impl.Whirl) string { return toldWhirls(impl.CircleImages(l, 2)) },
		"NearestWhirls":  func(l []impl.Whirl) string { return toldNearest(impl.NearestWhirls(l)) },
		"MergeNearest":   func(l []impl.Whirl) string { return toldWhirls(impl.MergeNearest(l, 0)) },
	}
}

// TestAreWhirls: a list has at most MaxWhirls whirls with finite numbers, and all other lists make functions fail.
func TestAreWhirls(t *testing.T) {
	for _, list := range [][]impl.Whirl{nil, {}, {whirl(0, minusZero, at(1))}, {whirl(3e38, -3e38, 3e38)}, manyWhirls(impl.MaxWhirls)} {
		wantBool(t, "whirls", impl.AreWhirls(list), true)
	}
	for i, list := range oddLists() {
		wantBool(t, fmt.Sprint("list ", i), impl.AreWhirls(list), false)
		for name, call := range withLists() {
			wantTold(t, fmt.Sprint(name, " of list ", i), call(list), "no")
		}
	}
}

// TestFullLists: functions take lists up to their limits.
func TestFullLists(t *testing.T) {
	for name, call := range withLists() {
		most := impl.MaxWhirls
		if name == "WallImages" || name == "CircleImages" {
			most /= 2
		}
		if got := call(manyWhirls(most)); got == "no" {
			t.Errorf("%s fails with %d whirls", name, most)
		}
		wantTold(t, name+" of one more", call(manyWhirls(most+1)), "no")
	}
}

// TestEmptyLists: nil and empty lists are the same, and few functions fail with them.
func TestEmptyLists(t *testing.T) {
	zero, zeros := "00000000", "00000000 00000000"
	want := map[string]string{
		"FlowAt": zeros, "StreamAt": zero, "HalvedWhirls": "3f800000", "TotalSpin": zero, "ImpulseOf": zeros, "MomentOfSpin": zero,
		"EnergyOfWhirls": "80000000", "CentreOfWhirls": "no", "NearestWhirls": "no",
	}
	for name, call := range withLists() {
		wantTold(t, name+" of nil", call(nil), want[name])
		wantTold(t, name+" of an empty list", call([]impl.Whirl{}), want[name])
	}
}

func TestSameWhirls(t *testing.T) {
	list := []impl.Whirl{whirl(1, minusZero, at(0x7f800001)), whirl(at(infinity), 2, 3)}
	same := []impl.Whirl{whirl(1, minusZero, at(0xffc00000)), whirl(at(infinity), 2, 3)}
	wantBool(t, "not-a-numbers", impl.SameWhirls(list, same), true)
	wantBool(t, "nil and empty", impl.SameWhirls(nil, []impl.Whirl{}), true)
	wantBool(t, "a shorter list", impl.SameWhirls(list, same[:1]), false)
	wantBool(t, "a longer list", impl.SameWhirls(list[:1], same), false)
	wantBool(t, "nil and one", impl.SameWhirls(nil, same[:1]), false)
	wantBool(t, "another order", impl.SameWhirls(list, []impl.Whirl{same[1], same[0]}), false)
	wantBool(t, "too many whirls", impl.SameWhirls(manyWhirls(99), manyWhirls(99)), true)
	whole := manyWhirls(3)
	for i, w := range whole {
		for _, changed := range []impl.Whirl{{At: w.At + 1, Spin: w.Spin}, {At: w.At + complex(0, 1), Spin: w.Spin}, {At: w.At, Spin: -w.Spin}} {
			other := slices.Clone(whole)
			other[i] = changed
			wantBool(t, "one other number", impl.SameWhirls(whole, other), false)
		}
	}
	for _, a := range edgeBits {
		for _, b := range edgeBits {
			same := bitsOf(at(a)) == bitsOf(at(b))
			wantBool(t, "x", impl.SameWhirls([]impl.Whirl{whirl(at(a), 1, 1)}, []impl.Whirl{whirl(at(b), 1, 1)}), same)
			wantBool(t, "y", impl.SameWhirls([]impl.Whirl{whirl(1, at(a), 1)}, []impl.Whirl{whirl(1, at(b), 1)}), same)
			wantBool(t, "the spin", impl.SameWhirls([]impl.Whirl{whirl(1, 1, at(a))}, []impl.Whirl{whirl(1, 1, at(b))}), same)
		}
	}
}

// TestFlowsAtOnePlace: a whirl gives nothing where it is, unless there is a core, and then no flow, but a stream.
func TestFlowsAtOnePlace(t *testing.T) {
	list := []impl.Whirl{whirl(2, 1, 5), whirl(2, 1, -3), whirl(3, 1, turn)}
	point := complex64(complex(2, 1))
	for _, core := range []float32{0, minusZero, 1e-30} {
		wantTold(t, "the flow", toldComplex(impl.FlowAt(list, point, core)), "00000000 bf800000")
		wantTold(t, "the stream", toldNumber(impl.StreamAt(list[:2], point, core)), "00000000")
		wantTold(t, "the flows", toldFlows(impl.FlowsOf(list[:2], core)), "00000000 00000000 00000000 00000000")
	}
	// With the core 1, q is 1 for the first two whirls, and 2 for the third.
	wantTold(t, "the flow with a core", toldComplex(impl.FlowAt(list, point, 1)), "00000000 bf000000")
	wantTold(t, "the stream with a core", toldNumber(impl.StreamAt(list[:2], point, 2)), "3e61ee4e")
	wantWhirls(t, "a step of them", list[:2]...)(impl.StepWhirls(list[:2], 0, 7))
	// All others count, also those at the same place, but not the whirl itself.
	flows := toldFlows(impl.FlowsOf([]impl.Whirl{whirl(0, 0, turn), whirl(0, 0, turn), whirl(1, 0, -turn)}, 0))
	wantTold(t, "the flows of three", flows, "00000000 3f800000 00000000 3f800000 00000000 40000000")
	// By itself, each whirl has a quotient here that is not finite.
	flows = toldFlows(impl.FlowsOf([]impl.Whirl{whirl(0, 0, turn), whirl(1, 0, -turn)}, 1e-20))
	wantTold(t, "the flows with a tiny core", flows, "00000000 3f800000 00000000 3f800000")
}

// TestStreamAndFlow: the flow goes along lines of the same stream, and is as fast as the stream changes across them.
func TestStreamAndFlow(t *testing.T) {
	list := manyWhirls(6)
	for _, point := range []complex64{complex(4, 5), complex(-3, 2), complex(0.1, -2)} {
		for _, core := range []float32{0, 0.5, 2} {
			stream := func(by complex64) float32 { return mustNumber(t)(impl.StreamAt(list, point+by, core)) }
			const gap = 1.0 / 64
			across := complex(stream(complex(0, -gap))-stream(complex(0, gap)), stream(gap)-stream(-gap)) / (2 * gap)
			wantNear(t, "the flow by the stream", mustComplex(t)(impl.FlowAt(list, point, core)), across, 2e-3)
		}
	}
}

// TestOddFlowArguments: points must be finite, and cores finite and at least 0.
func TestOddFlowArguments(t *testing.T) {
	list := []impl.Whirl{whirl(0, 0, 1), whirl(1, 0, 1)}
	for _, lists := range [][]impl.Whirl{nil, list[:1], list} {
		for _, odd := range []float32{at(infinity), at(signBit + infinity), at(noNumber)} {
			for _, point := range []complex64{complex(odd, 1), complex(1, odd)} {
				wantTold(t, "FlowAt", toldComplex(impl.FlowAt(lists, point, 1)), "no")
				wantTold(t, "StreamAt", toldNumber(impl.StreamAt(lists, point, 1)), "no")
			}
		}
		for _, core := range []float32{at(infinity), at(signBit + infinity), at(noNumber), -1, at(signBit + 1)} {
			wantTold(t, "FlowAt with a core", toldComplex(impl.FlowAt(lists, complex(0, 2), core)), "no")
			wantTold(t, "StreamAt with a core", toldNumber(impl.StreamAt(lists, complex(0, 2), core)), "no")
			wantTold(t, "FlowsOf with a core", toldFlows(impl.FlowsOf(lists, core)), "no")
		}
	}
}

// TestFlowsThatAreNotFinite: functions fail with them, even if it is one of several.
func TestFlowsThatAreNotFinite(t *testing.T) {
	list := []impl.Whirl{whirl(0, 0, 3e38), whirl(1e-3, 0, 1), whirl(0, 1, -1)}
	wantTold(t, "a flow", toldComplex(impl.FlowAt(list, 1e-3, 0)), "no")
	wantTold(t, "a flow from afar", toldComplex(impl.FlowAt(list[:1], 100, 0)), "00000000 7ab7e9aa")
	wantTold(t, "some flows", toldFlows(impl.FlowsOf(list, 0)), "no")
	wantTold(t, "the last flow", toldFlows(impl.FlowsOf([]impl.Whirl{list[2], list[1], list[0]}, 0)), "no")
	// The way is too long for a number, and 0 times it is not a number.
	far := []impl.Whirl{whirl(3e38, 0, 1), whirl(-3e38, 0, 1)}
	wantTold(t, "a flow too far away", toldComplex(impl.FlowAt(far[:1], -3e38, 0)), "no")
	wantTold(t, "flows too far away", toldFlows(impl.FlowsOf(far, 0)), "no")
	wantTold(t, "a stream", toldNumber(impl.StreamAt(far[:1], -3e38, 0)), "no")
	wantTold(t, "a stream of no spin", toldNumber(impl.StreamAt([]impl.Whirl{whirl(0, 0, 0)}, 1e30, 0)), "no")
	wantTold(t, "opposite streams", toldNumber(impl.StreamAt([]impl.Whirl{whirl(0, 0, 1), whirl(0, 0, -1)}, 1e30, 0)), "no")
}
