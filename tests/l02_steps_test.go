package tests

import (
	"fmt"
	"math"
	"slices"
	"testing"

	"loop.example/g01266/impl"
)

// oddTicks are no ticks.
func oddTicks() []float32 {
	return []float32{at(infinity), at(signBit + infinity), at(noNumber), at(0xffc00001)}
}

// oddSizes are neither cores nor what is near.
func oddSizes() []float32 { return append(oddTicks(), -1, at(signBit+1)) }

func TestOddStepArguments(t *testing.T) {
	for _, list := range [][]impl.Whirl{nil, {whirl(1, 2, 3)}, manyWhirls(3)} {
		for _, tick := range oddTicks() {
			wantNoWhirls(t, "StepWhirls with a tick")(impl.StepWhirls(list, 1, tick))
			wantNoWhirls(t, "RunWhirls with a tick")(impl.RunWhirls(list, 1, tick, 1))
			wantNoWhirls(t, "RunWhirls with a tick and no steps")(impl.RunWhirls(list, 1, tick, 0))
			wantTold(t, "HalvedWhirls with a tick", toldHalved(impl.HalvedWhirls(list, 1, tick, 9)), "no")
		}
		for _, odd := range oddSizes() {
			wantNoWhirls(t, "StepWhirls with a core")(impl.StepWhirls(list, odd, 0.5))
			wantNoWhirls(t, "RunWhirls with a core")(impl.RunWhirls(list, odd, 0.5, 1))
			wantNoWhirls(t, "RunWhirls with a core and no steps")(impl.RunWhirls(list, odd, 0.5, 0))
			wantTold(t, "HalvedWhirls with a core", toldHalved(impl.HalvedWhirls(list, odd, 0.5, 9)), "no")
			wantTold(t, "HalvedWhirls with what is near", toldHalved(impl.HalvedWhirls(list, 1, 0.5, odd)), "no")
		}
		for _, steps := range []int64{-1, impl.MaxRun + 1, math.MaxInt64, math.MinInt64, 1 << 32} {
			wantNoWhirls(t, "RunWhirls with steps")(impl.RunWhirls(list, 1, 0.5, steps))
		}
	}
}

func TestSteps(t *testing.T) {
	pair := []impl.Whirl{whirl(1, 0, turn), whirl(-1, 0, turn)}
	// Half of the tick leads to 1 + i, where the flow is -1/4 + i/4, and this moves the whirl from 1.
	wantWhirls(t, "a step", whirl(0, 1, turn), whirl(0, -1, turn))(impl.StepWhirls(pair, 0, 4))
	wantWhirls(t, "a step back", whirl(0, -1, turn), whirl(0, 1, turn))(impl.StepWhirls(pair, minusZero, -4))
	wantWhirls(t, "no tick", pair...)(impl.StepWhirls(pair, 0, 0))
	wantWhirls(t, "a whirl alone", whirl(5, -6, 7))(impl.StepWhirls([]impl.Whirl{whirl(5, -6, 7)}, 0, 3e38))
	wantWhirls(t, "spins of nothing", whirl(5, -6, 0), whirl(6, 0, 0))(impl.StepWhirls([]impl.Whirl{whirl(5, -6, 0), whirl(6, 0, 0)}, 0, 100))
}

// TestStepsThatAreNotFinite: a step fails on the way and at its end.
func TestStepsThatAreNotFinite(t *testing.T) {
	pair := []impl.Whirl{whirl(1e-3, 0, 1e3), whirl(-1e-3, 0, 1e3)}
	wantNoWhirls(t, "halfway")(impl.StepWhirls(pair, 0, 3e38))
	wantNoWhirls(t, "flows")(impl.StepWhirls([]impl.Whirl{whirl(0, 0, 3e38), whirl(1e-3, 0, 3e38)}, 0, 1e-30))
	// Both go up by 1 for each unit of time, and only the end is too far.
	edge := []impl.Whirl{whirl(0, 3.4e38, turn), whirl(1, 3.4e38, -turn)}
	wantWhirls(t, "not yet the end", whirl(0, 3.402e38, turn), whirl(1, 3.402e38, -turn))(impl.StepWhirls(edge, 0, 2e35))
	wantNoWhirls(t, "the end")(impl.StepWhirls(edge, 0, 4e35))
	wantNoWhirls(t, "halfway to the end")(impl.StepWhirls(edge, 0, 8e35))
	wantNoWhirls(t, "a run")(impl.RunWhirls(pair, 0, 3e38, 3))
}

func TestRuns(t *testing.T) {
	for _, core := range []float32{0, 0.25} {
		list := manyWhirls(5)
		wantWhirls(t, "no steps", list...)(impl.RunWhirls(list, core, 0.1, 0))
		behind := list
		for steps := int64(1); steps <= impl.MaxRun; steps++ {
			behind = mustWhirls(t)(impl.StepWhirls(behind, core, 0.1))
			wantWhirls(t, fmt.Sprint(steps, " steps"), behind...)(impl.RunWhirls(list, core, 0.1, steps))
		}
	}
	// A list of which a run returns a copy stays as it is.
	list := manyWhirls(3)
	mustWhirls(t)(impl.RunWhirls(list, 0, 1, 0))[0].Spin = 99
	wantWhirls(t, "the list", list...)(manyWhirls(3), true)
}

// farthest returns how far whirls behind steps are from those behind twice as many.
func farthest(t *testing.T, list []impl.Whirl, core, tick float32, steps int64) float32 {
	t.Helper()
	a := mustWhirls(t)(impl.RunWhirls(list, core, tick/float32(steps), steps))
	b := mustWhirls(t)(impl.RunWhirls(list, core, tick/float32(2*steps), 2*steps))
	most := float32(0)
	for i := range a {
		most = max(most, impl.LongOf(a[i].At-b[i].At))
	}
	return most
}

// TestHalvedSteps: the first number of parts is taken with which no whirl is farther away than near, and just near is near.
func TestHalvedSteps(t *testing.T) {
	list := []impl.Whirl{whirl(1, 0, turn), whirl(-1, 0, turn), whirl(0, 2, -turn)}
	for m := int64(1); m < 64; m *= 2 {
		near := farthest(t, list, 0.125, 8, m)
		want := mustWhirls(t)(impl.RunWhirls(list, 0.125, 8/float32(2*m), 2*m))
		words := wordsOf([]float32{float32(m)}) + " " + wordsOfWhirls(want)
		wantTold(t, fmt.Sprint(m, " parts"), toldHalved(impl.HalvedWhirls(list, 0.125, 8, near)), words)
		_, more, ok := impl.HalvedWhirls(list, 0.125, 8, math.Nextafter32(near, 0))
		if ok != (m < 32) || ok && more <= m {
			t.Errorf("nearer than %v: %d parts, %v", near, more, ok)
		}
	}
}

// TestHalvedEdges has searches that end at once, and those that come to 64.
func TestHalvedEdges(t *testing.T) {
	one := []impl.Whirl{whirl(3, 4, 5)}
	for _, near := range []float32{0, minusZero, 3e38} {
		wantTold(t, "one whirl", toldHalved(impl.HalvedWhirls(one, 0, 7, near)), "3f800000 "+wordsOfWhirls(one))
		wantTold(t, "no whirls", toldHalved(impl.HalvedWhirls(nil, 0, 7, near)), "3f800000")
	}
	pair := []impl.Whirl{whirl(1, 0, turn), whirl(-1, 0, turn)}
	wantTold(t, "no tick", toldHalved(impl.HalvedWhirls(pair, 0, 0, 0)), "3f800000 "+wordsOfWhirls(pair))
	wantTold(t, "64 parts", toldHalved(impl.HalvedWhirls(pair, 0, 3, 0)), "no")
	wantTold(t, "steps that fail", toldHalved(impl.HalvedWhirls([]impl.Whirl{whirl(0, 0, 3e38), whirl(1e-3, 0, 1)}, 0, 1, 3e38)), "no")
	// Whirls that stay for certain, in front of and behind those that move, change nothing.
	far := []impl.Whirl{whirl(1e20, 0, 0), pair[0], pair[1], whirl(0, 1e20, 0)}
	wantTold(t, "64 parts of some", toldHalved(impl.HalvedWhirls(far, 0, 3, 0)), "no")
	got, m, ok := impl.HalvedWhirls(far, 0, 3, 1e-3)
	alone, n, _ := impl.HalvedWhirls(pair, 0, 3, 1e-3)
	if !ok || m != n || m < 2 || !slices.Equal(got[1:3], alone) {
		t.Errorf("with whirls that stay: %d parts, and %d without: %v and %v", m, n, got, alone)
	}
}
