package tests

import (
	"fmt"
	"math"
	"slices"
	"testing"

	"loop.example/g01266/impl"
)

// TestSheetFlowsAreThoseOfWhirls: up to MaxWhirls points, they are the flows of chapter 2, to the last bit.
func TestSheetFlowsAreThoseOfWhirls(t *testing.T) {
	for _, count := range []int{2, 3, 20, impl.MaxWhirls} {
		for _, closed := range []bool{false, true} {
			for _, core := range []float32{0, minusZero, 0.25, 3} {
				what := fmt.Sprintf("%d points, the core %v", count, core)
				s := manyPoints(count, closed)
				list := mustWhirls(t)(impl.WhirlsOfSheet(s))
				for _, point := range []complex64{complex(0.3, 0.7), complex(-9, 4), s.Points[0], s.Points[count-1]} {
					wantTold(t, what, toldComplex(impl.SheetFlow(s, point, core)), toldComplex(impl.FlowAt(list, point, core)))
				}
				wantTold(t, what, toldFlows(impl.SheetFlows(s, core)), toldFlows(impl.FlowsOf(list, core)))
				moved := impl.Sheet{Closed: closed, Spins: s.Spins}
				for _, w := range mustWhirls(t)(impl.StepWhirls(list, core, 0.125)) {
					moved.Points = append(moved.Points, w.At)
				}
				wantSheet(t, what, moved)(impl.StepSheet(s, core, 0.125))
			}
		}
	}
}

// TestFlowsOfMorePoints: each of more than MaxWhirls points counts, in order.
func TestFlowsOfMorePoints(t *testing.T) {
	for _, count := range []int{impl.MaxWhirls + 1, impl.MaxSheet} {
		s := manyPoints(count, false)
		point := complex64(complex(0.3, 0.7))
		var sum complex64
		for i, p := range s.Points {
			sum += mustComplex(t)(impl.FlowAt([]impl.Whirl{{At: p, Spin: s.Spins[i]}}, point, 0.5))
		}
		wantTold(t, fmt.Sprint(count, " points"), toldComplex(impl.SheetFlow(s, point, 0.5)), toldComplex(sum, true))
		var sums []complex64
		for i := range s.Points {
			var sum complex64
			for k, p := range s.Points {
				if k != i {
					sum += mustComplex(t)(impl.FlowAt([]impl.Whirl{{At: p, Spin: s.Spins[k]}}, s.Points[i], 0.5))
				}
			}
			sums = append(sums, sum)
		}
		wantTold(t, fmt.Sprint(count, " flows"), toldFlows(impl.SheetFlows(s, 0.5)), toldFlows(sums, true))
	}
}

// TestFlowsOfPointsAtOnePlace: a point gives nothing to itself, and others at its place nothing without a core.
func TestFlowsOfPointsAtOnePlace(t *testing.T) {
	s := openSheet(0, 0, turn, 0, minusZero, turn, 1, 0, -turn)
	wantTold(t, "the flows", toldFlows(impl.SheetFlows(s, 0)), "00000000 3f800000 00000000 3f800000 00000000 40000000")
	wantTold(t, "the flow at one place", toldComplex(impl.SheetFlow(s, 0, 0)), "00000000 3f800000")
	// By itself, each point has a quotient here that is not finite.
	wantTold(t, "the flows with a tiny core", toldFlows(impl.SheetFlows(openSheet(0, 0, turn, 1, 0, -turn), 1e-20)), "00000000 3f800000 00000000 3f800000")
	still := closedSheet(2, 1, 5, 2, 1, -3, 2, 1, 7)
	wantSheet(t, "a step of points at one place", still)(impl.StepSheet(still, 0, 7))
}

func TestSheetSteps(t *testing.T) {
	// Half of the tick leads to 1 + i, where the flow is -1/4 + i/4, and this moves the point from 1.
	for _, closed := range []bool{false, true} {
		pair := closedOrOpen(openSheet(1, 0, turn, -1, 0, turn), closed)
		wantSheet(t, "a step", closedOrOpen(openSheet(0, 1, turn, 0, -1, turn), closed))(impl.StepSheet(pair, 0, 4))
		wantSheet(t, "a step back", closedOrOpen(openSheet(0, -1, turn, 0, 1, turn), closed))(impl.StepSheet(pair, minusZero, -4))
		wantSheet(t, "no tick", pair)(impl.StepSheet(pair, 0, 0))
	}
	still := openSheet(5, -6, minusZero, 6, 0, 0)
	wantSheet(t, "spins of nothing", still)(impl.StepSheet(still, 0, 100))
}

func TestOddSheetStepArguments(t *testing.T) {
	s := manyPoints(3, true)
	for _, odd := range oddTicks() {
		wantTold(t, "SheetFlow at x", toldComplex(impl.SheetFlow(s, complex(odd, 0), 1)), "no")
		wantTold(t, "SheetFlow at y", toldComplex(impl.SheetFlow(s, complex(0, odd), 1)), "no")
		wantNoSheet(t, "StepSheet with a tick")(impl.StepSheet(s, 1, odd))
		wantTold(t, "RunSheet with a tick", toldRolled(impl.RunSheet(s, 1, odd, 1)), "no")
		wantTold(t, "RunSheet with a tick and no ticks", toldRolled(impl.RunSheet(s, 1, odd, 0)), "no")
	}
	for _, odd := range oddSizes() {
		wantTold(t, "SheetFlow with a core", toldComplex(impl.SheetFlow(s, complex(0, 2), odd)), "no")
		wantTold(t, "SheetFlows with a core", toldFlows(impl.SheetFlows(s, odd)), "no")
		wantNoSheet(t, "StepSheet with a core")(impl.StepSheet(s, odd, 0.5))
		wantTold(t, "RunSheet with a core", toldRolled(impl.RunSheet(s, odd, 0.5, 1)), "no")
		wantTold(t, "RunSheet with a core and no ticks", toldRolled(impl.RunSheet(s, odd, 0.5, 0)), "no")
	}
	for _, ticks := range []int64{-1, impl.MaxTicks + 1, math.MaxInt64, math.MinInt64, 1 << 32} {
		wantTold(t, fmt.Sprint(ticks, " ticks"), toldRolled(impl.RunSheet(s, 1, 0.5, ticks)), "no")
	}
}

// TestSheetStepsThatAreNotFinite: a step fails on the way and at its end.
func TestSheetStepsThatAreNotFinite(t *testing.T) {
	pair := openSheet(1e-3, 0, 1e3, -1e-3, 0, 1e3)
	wantNoSheet(t, "halfway")(impl.StepSheet(pair, 0, 3e38))
	wantNoSheet(t, "flows")(impl.StepSheet(openSheet(0, 0, 3e38, 1e-3, 0, 3e38), 0, 1e-30))
	wantTold(t, "a flow", toldComplex(impl.SheetFlow(openSheet(0, 0, 3e38, 9, 0, 1), 1e-3, 0)), "no")
	wantTold(t, "the last flow", toldFlows(impl.SheetFlows(openSheet(9, 9, 1, 0, 0, 1e38, 1e-3, 0, 1), 0)), "no")
	// Both go up by 1 for each unit of time, and only the end is too far.
	edge := openSheet(0, 3.4e38, turn, 1, 3.4e38, -turn)
	wantSheet(t, "not yet the end", openSheet(0, 3.402e38, turn, 1, 3.402e38, -turn))(impl.StepSheet(edge, 0, 2e35))
	wantNoSheet(t, "the end")(impl.StepSheet(edge, 0, 4e35))
	wantNoSheet(t, "halfway to the end")(impl.StepSheet(edge, 0, 8e35))
	wantTold(t, "a run", toldRolled(impl.RunSheet(edge, 0, 2e35, 3)), "no")
}

// TestRunsThatAreTooLong: a run fails where a length is not finite, though its sheets are valid.
func TestRunsThatAreTooLong(t *testing.T) {
	wide := openSheet(3e38, 0, 0, -3e38, 0, 0)
	wantTold(t, "no ticks", toldRolled(impl.RunSheet(wide, 0, 0.5, 0)), wordsOfSheet(wide))
	wantNoSheet(t, "a step")(impl.StepSheet(wide, 0, 0.5))
	// Points without spins stay, unless a way between two of them is too long for a number.
	long := openSheet(3e38, 0, 0, 1e38, 0, 0, 3e38, 0, 0)
	wantSheet(t, "a step of a long sheet", long)(impl.StepSheet(long, 0, 0.5))
	wantTold(t, "no ticks of a long sheet", toldRolled(impl.RunSheet(long, 0, 0.5, 0)), wordsOfSheet(long))
	wantTold(t, "a tick of a long sheet", toldRolled(impl.RunSheet(long, 0, 0.5, 1)), "no")
	fine := openSheet(3e38, 0, 0, 1e38, 0, 0, 2e38, 0, 0)
	wantTold(t, "a tick of a sheet that is not too long", toldRolled(impl.RunSheet(fine, 0, 0.5, 1)), wordsOf([]float32{3e38})+" "+wordsOfSheet(fine))
	wantTold(t, "the same sheet closed", toldRolled(impl.RunSheet(closedOrOpen(fine, true), 0, 0.5, 1)), "no")
}

// TestSheetRuns: a run makes steps, and tells the length behind each of them.
func TestSheetRuns(t *testing.T) {
	for _, closed := range []bool{false, true} {
		for _, count := range []int{2, 5, impl.MaxSheet} {
			s := manyPoints(count, closed)
			wantTold(t, "no ticks", toldRolled(impl.RunSheet(s, 0.25, 0.1, 0)), wordsOfSheet(s))
			behind, words := s, ""
			for ticks := int64(1); ticks <= impl.MaxTicks; ticks++ {
				behind = mustSheet(t)(impl.StepSheet(behind, 0.25, 0.1))
				words += wordsOf([]float32{mustNumber(t)(impl.SheetLong(behind))}) + " "
				wantTold(t, fmt.Sprint(ticks, " ticks"), toldRolled(impl.RunSheet(s, 0.25, 0.1, ticks)), words+wordsOfSheet(behind))
			}
			if slices.Equal(behind.Points, s.Points) {
				t.Errorf("%d points: nothing moves", count)
			}
		}
	}
	// A sheet of which a run returns a copy stays as it is.
	s := manyPoints(3, true)
	copied, _, _ := impl.RunSheet(s, 0, 1, 0)
	copied.Points[0], copied.Spins[0] = 99, 99
	wantSheet(t, "the sheet", manyPoints(3, true))(s, true)
}
