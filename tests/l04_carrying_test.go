package tests

import (
	"fmt"
	"math"
	"slices"
	"testing"

	"loop.example/g01266/impl"
)

func wantSpinAbout(t *testing.T, b impl.Basin, x, y, want float32) {
	t.Helper()
	wantTold(t, fmt.Sprint("about ", x, ", ", y), toldNumber(impl.SpinAbout(b, x, y)), wordsOf([]float32{want}))
}

// TestSpinsAboutCells: at a cell, and across the edges, it is the spin of the cell.
func TestSpinsAboutCells(t *testing.T) {
	for _, b := range []impl.Basin{manyCells(3, 3), manyCells(5, 7), manyCells(impl.MaxSide, impl.MaxSide)} {
		for x := int64(-40); x <= 40; x++ {
			for y := int64(-40); y <= 40; y++ {
				wantSpinAbout(t, b, float32(x), float32(y), spinIn(b, x, y))
			}
		}
		for _, place := range []int64{-1000, -999, 999, 1000} {
			wantSpinAbout(t, b, float32(place), 1, spinIn(b, place, 1))
			wantSpinAbout(t, b, 1, float32(place), spinIn(b, 1, place))
			wantSpinAbout(t, b, float32(place), float32(-place), spinIn(b, place, -place))
		}
	}
}

func TestSpinsBetweenCells(t *testing.T) {
	b := basin(4, 3, 0, 4, 8, 16, 1, 2, 3, 4, -8, 0, 2, -2)
	wantSpinAbout(t, b, 0.25, 0, 1)
	wantSpinAbout(t, b, 2.75, 0, 14)
	wantSpinAbout(t, b, 3.25, 0, 12)
	wantSpinAbout(t, b, -0.75, 0, 12)
	wantSpinAbout(t, b, 0, 0.5, 0.5)
	wantSpinAbout(t, b, 0, 2.75, -2)
	wantSpinAbout(t, b, 0, -0.25, -2)
	wantSpinAbout(t, b, 1.5, 0.25, 5.125)
	wantSpinAbout(t, b, 3.5, 2.5, 1.5)
	wantSpinAbout(t, b, -997.5, 0, 12)
	wantSpinAbout(t, b, 999.5, 0, 8)
	// A part that is nearer to 1 than numbers can tell becomes 1.
	wantSpinAbout(t, b, -1e-9, 0, 0)
	wantSpinAbout(t, b, at(signBit+1), 0, 0)
	wantSpinAbout(t, b, 1, -1e-9, 4)
	// Rows are told first, each operation rounded: the other order tells another bit.
	other := basin(3, 3, 0.1, 0.7, 0, 0.3, -0.9, 0, 0, 0, 0)
	third := float32(1) / 3
	first := float32(0.1) + float32(third*float32(float32(0.7)-float32(0.1)))
	second := float32(0.3) + float32(third*float32(float32(-0.9)-float32(0.3)))
	wantSpinAbout(t, other, third, 0.6, first+float32(float32(0.6)*float32(second-first)))
}

// TestSpinsAboutZeros: zeros keep the sign that the sums give them, and -0 is behind 0 by -0.
func TestSpinsAboutZeros(t *testing.T) {
	b := basin(3, 3, minusZero, 1, 1, 1, 1, 1, 1, 1, 1)
	wantSpinAbout(t, b, 0, 0, 0)
	wantSpinAbout(t, b, minusZero, minusZero, minusZero)
	wantSpinAbout(t, b, minusZero, 0, 0)
	wantSpinAbout(t, b, 0, minusZero, 0)
	wantSpinAbout(t, evenCells(3, 3, minusZero), 0.5, 0.5, 0)
	wantSpinAbout(t, basin(3, 3, minusZero, -1, -1, -1, -1, -1, -1, -1, -1), 0, 0, minusZero)
}

func TestOddPlaces(t *testing.T) {
	b := manyCells(4, 3)
	odd := append(oddTicks(), math.Nextafter32(1000, 2000), math.Nextafter32(-1000, -2000), 1001, -1001, 3e38, -3e38, math.MaxFloat32)
	for _, place := range odd {
		wantTold(t, fmt.Sprint("the x ", place), toldNumber(impl.SpinAbout(b, place, 0)), "no")
		wantTold(t, fmt.Sprint("the y ", place), toldNumber(impl.SpinAbout(b, 0, place)), "no")
		wantTold(t, fmt.Sprint("the x and y ", place), toldNumber(impl.SpinAbout(b, place, place)), "no")
	}
	for _, place := range []float32{math.Nextafter32(1000, 0), math.Nextafter32(-1000, 0), 1000, -1000} {
		if _, ok := impl.SpinAbout(b, place, place); !ok {
			t.Errorf("nothing about %v", place)
		}
	}
	far := basin(3, 3, 3e38, -3e38, 0, 0, 0, 0, 0, 0, 0)
	wantTold(t, "a difference that is not finite", toldNumber(impl.SpinAbout(far, 0, 0)), "no")
	wantTold(t, "a row that is not finite", toldNumber(impl.SpinAbout(far, 0, 2)), "no")
	wantSpinAbout(t, far, 1, 0, -3e38)
}

// TestCarriedByWholeCells: flows that are the same everywhere roll the basin.
func TestCarriedByWholeCells(t *testing.T) {
	for _, b := range []impl.Basin{manyCells(3, 3), manyCells(5, 4), manyCells(impl.MaxSide, impl.MaxSide)} {
		for x := int64(-impl.MaxSide); x <= impl.MaxSide; x += 3 {
			for y := int64(-impl.MaxSide); y <= impl.MaxSide; y += 4 {
				want := mustBasin(t)(impl.RollBasin(b, x, y))
				what := fmt.Sprint("carried by ", x, " and ", y)
				wantBasin(t, what, want)(impl.CarryBasin(b, evenCells(b.Wide, b.High, float32(x)), evenCells(b.Wide, b.High, float32(y)), 1))
				wantBasin(t, what+" in a tick", want)(impl.CarryBasin(b, evenCells(b.Wide, b.High, float32(x)/-0.5), evenCells(b.Wide, b.High, float32(y)/-0.5), -0.5))
			}
		}
		wantBasin(t, "no flow", b)(impl.CarryBasin(b, evenCells(b.Wide, b.High, 0), evenCells(b.Wide, b.High, minusZero), 3e38))
		wantBasin(t, "no tick", b)(impl.CarryBasin(b, manyCells(b.Wide, b.High), manyCells(b.Wide, b.High), 0))
	}
}

// TestCarriedByOwnFlows: each cell gets the spin from where its own flows come.
func TestCarriedByOwnFlows(t *testing.T) {
	b := manyCells(5, 4)
	u := ofCells(5, 4, func(x, y int64) float32 { return float32(x*x)/3 - float32(y) })
	v := ofCells(5, 4, func(x, y int64) float32 { return float32(y)/7 - float32(x)*1.5 })
	for _, tick := range []float32{0.3, -1.7, 1, 20} {
		want := ofCells(5, 4, func(x, y int64) float32 {
			ticksX := float32(tick * spinIn(u, x, y))
			ticksY := float32(tick * spinIn(v, x, y))
			return mustNumber(t)(impl.SpinAbout(b, float32(x)-ticksX, float32(y)-ticksY))
		})
		wantBasin(t, fmt.Sprint("the tick ", tick), want)(impl.CarryBasin(b, u, v, tick))
		if slices.Equal(want.Spins, b.Spins) {
			t.Errorf("the tick %v: nothing is carried", tick)
		}
	}
}

func TestCarriedTooFar(t *testing.T) {
	b, still := manyCells(4, 3), evenCells(4, 3, 0)
	for i := range still.Spins {
		x, y := float32(i%4), float32(i/4)
		for _, edge := range []float32{1000, -1000} {
			beyond := math.Nextafter32(x-edge, x-2*edge)
			if _, ok := impl.CarryBasin(b, withSpin(still, i, x-edge), still, 1); !ok {
				t.Errorf("the cell %d cannot be carried from the x %v", i, edge)
			}
			if _, ok := impl.CarryBasin(b, still, withSpin(still, i, y-edge), 1); !ok {
				t.Errorf("the cell %d cannot be carried from the y %v", i, edge)
			}
			// Numbers beyond the edge are as near to one another as those at it, and half as near inside.
			wantNoBasin(t, fmt.Sprint("the cell ", i, " from beyond the x ", edge))(impl.CarryBasin(b, withSpin(still, i, 2*beyond-(x-edge)), still, 1))
			wantNoBasin(t, fmt.Sprint("the cell ", i, " from far beyond the x ", edge))(impl.CarryBasin(b, withSpin(still, i, x-1.5*edge), still, 1))
			wantNoBasin(t, fmt.Sprint("the cell ", i, " from far beyond the y ", edge))(impl.CarryBasin(b, still, withSpin(still, i, y-1.5*edge), 1))
		}
	}
	wantNoBasin(t, "too long a tick")(impl.CarryBasin(b, withSpin(still, 5, 1), still, 3e38))
	wantNoBasin(t, "a product that is not finite")(impl.CarryBasin(b, withSpin(still, 5, 2), still, 3e38))
	far := basin(3, 3, 3e38, -3e38, 0, 0, 0, 0, 0, 0, 0)
	wantNoBasin(t, "a difference that is not finite")(impl.CarryBasin(far, evenCells(3, 3, 0), evenCells(3, 3, 0), 1))
	for _, odd := range oddTicks() {
		wantNoBasin(t, "an odd tick")(impl.CarryBasin(b, still, still, odd))
	}
}

func TestSpreads(t *testing.T) {
	one := withSpin(evenCells(3, 3, 0), 0, 8)
	wantBasin(t, "one step", basin(3, 3, 4, 1, 1, 1, 0, 0, 1, 0, 0))(impl.SpreadBasin(one, 0.125, 1))
	wantBasin(t, "two steps", basin(3, 3, 2.5, 1.125, 1.125, 1.125, 0.25, 0.25, 1.125, 0.25, 0.25))(impl.SpreadBasin(one, 0.125, 2))
	wantBasin(t, "a rate less than 0", basin(3, 3, 12, -1, -1, -1, 0, 0, -1, 0, 0))(impl.SpreadBasin(one, -0.125, 1))
	for _, b := range []impl.Basin{manyCells(3, 3), manyCells(5, 4), manyCells(impl.MaxSide, impl.MaxSide)} {
		for _, rate := range []float32{0.2, -0.01, 0.25, 0} {
			spread := b
			for steps := int64(0); steps <= 64; steps++ {
				wantBasin(t, fmt.Sprint(steps, " steps with the rate ", rate), spread)(impl.SpreadBasin(b, rate, steps))
				laplace := mustBasin(t)(impl.LaplaceBasin(spread))
				spread = ofCells(b.Wide, b.High, func(x, y int64) float32 {
					part := float32(rate * spinIn(laplace, x, y))
					return spinIn(spread, x, y) + part
				})
			}
		}
	}
	// A basin of which spreading returns a copy stays as it is.
	b := manyCells(4, 3)
	copied := mustBasin(t)(impl.SpreadBasin(b, 0.1, 0))
	copied.Spins[0] = 99
	wantBasin(t, "the basin", manyCells(4, 3))(b, true)
}

func TestOddSpreads(t *testing.T) {
	b := manyCells(4, 3)
	for _, steps := range []int64{-1, 65, math.MaxInt64, math.MinInt64, 1 << 32} {
		wantNoBasin(t, fmt.Sprint(steps, " steps"))(impl.SpreadBasin(b, 0.1, steps))
	}
	for _, odd := range oddTicks() {
		wantNoBasin(t, "an odd rate")(impl.SpreadBasin(b, odd, 1))
		wantNoBasin(t, "an odd rate and no steps")(impl.SpreadBasin(b, odd, 0))
	}
	far := withSpin(evenCells(3, 3, 0), 4, 1e38)
	wantBasin(t, "no steps far away", far)(impl.SpreadBasin(far, 0.1, 0))
	wantNoBasin(t, "a step far away")(impl.SpreadBasin(far, 0.1, 1))
	wantNoBasin(t, "a step far away without a rate")(impl.SpreadBasin(far, 0, 1))
	wantNoBasin(t, "too great a rate")(impl.SpreadBasin(b, 3e38, 1))
	wantNoBasin(t, "too many steps with a great rate")(impl.SpreadBasin(b, 1000, 64))
}

// stepOnce makes a step of the parts of which it is made.
func stepOnce(t *testing.T, b impl.Basin, run basinRun) impl.Basin {
	t.Helper()
	stream := mustBasin(t)(impl.SweepStream(b, evenCells(b.Wide, b.High, 0), run.sweeps))
	u, v, ok := impl.FlowsInBasin(stream)
	wantBool(t, "flows", ok, true)
	carried := mustBasin(t)(impl.CarryBasin(b, u, v, run.tick))
	return mustBasin(t)(impl.SpreadBasin(carried, run.rate, 1))
}

// basinRun is what basins are run with.
type basinRun struct {
	tick, rate float32
	sweeps     int64
}

// basinRuns has ticks, rates and sweeps for which all steps of manyCells are finite.
func basinRuns() []basinRun {
	return []basinRun{{0.25, 0.05, 5}, {-0.5, 0.2, 0}, {0.1, 0, impl.MaxSweeps}, {0, -0.01, 1}, {1, minusZero, 20}}
}

func TestBasinSteps(t *testing.T) {
	for _, b := range []impl.Basin{manyCells(3, 3), manyCells(6, 4), manyCells(impl.MaxSide, impl.MaxSide)} {
		for _, run := range basinRuns() {
			what := fmt.Sprint("a run with ", run)
			behind, squares := b, []float32{}
			for steps := int64(0); steps <= 16; steps++ {
				wantTold(t, what, toldRun(impl.RunBasin(b, run.tick, run.rate, run.sweeps, steps)), toldRun(behind, squares, true))
				next := stepOnce(t, behind, run)
				wantBasin(t, what, next)(impl.StepBasin(behind, run.tick, run.rate, run.sweeps))
				behind = next
				squares = append(squares, mustNumber(t)(impl.SquaresInBasin(behind)))
			}
			if slices.Equal(behind.Spins, b.Spins) {
				t.Errorf("%s: nothing moves", what)
			}
		}
	}
	// A basin of which a run returns a copy stays as it is.
	b := manyCells(4, 3)
	copied, _, _ := impl.RunBasin(b, 1, 0, 1, 0)
	copied.Spins[0] = 99
	wantBasin(t, "the basin", manyCells(4, 3))(b, true)
}

func TestOddBasinSteps(t *testing.T) {
	b := manyCells(4, 3)
	for _, steps := range []int64{-1, 17, math.MaxInt64, math.MinInt64, 1 << 32} {
		wantTold(t, fmt.Sprint(steps, " steps"), toldRun(impl.RunBasin(b, 0.1, 0.1, 1, steps)), "no")
	}
	for _, steps := range []int64{0, 1, 16} {
		for _, sweeps := range []int64{-1, impl.MaxSweeps + 1, math.MaxInt64, math.MinInt64, 1 << 32} {
			wantTold(t, fmt.Sprint(sweeps, " sweeps"), toldRun(impl.RunBasin(b, 0.1, 0.1, sweeps, steps)), "no")
			wantNoBasin(t, fmt.Sprint("a step with ", sweeps, " sweeps"))(impl.StepBasin(b, 0.1, 0.1, sweeps))
		}
		for _, odd := range oddTicks() {
			wantTold(t, "an odd tick", toldRun(impl.RunBasin(b, odd, 0.1, 1, steps)), "no")
			wantTold(t, "an odd rate", toldRun(impl.RunBasin(b, 0.1, odd, 1, steps)), "no")
			wantNoBasin(t, "a step with an odd tick")(impl.StepBasin(b, odd, 0.1, 1))
			wantNoBasin(t, "a step with an odd tick and no sweeps")(impl.StepBasin(b, odd, 0.1, 0))
			wantNoBasin(t, "a step with an odd rate")(impl.StepBasin(b, 0.1, odd, 1))
		}
	}
}

// TestRunsThatFail: a run fails where a step or its squares do, but not before.
func TestRunsThatFail(t *testing.T) {
	squares := withSpin(evenCells(3, 3, 0), 0, 2e19)
	wantTold(t, "no steps without squares", toldRun(impl.RunBasin(squares, 0, 0, 1, 0)), wordsOfBasin(squares))
	wantBasin(t, "a step without squares", squares)(impl.StepBasin(squares, 0, 0, 1))
	wantTold(t, "a run without squares", toldRun(impl.RunBasin(squares, 0, 0, 1, 1)), "no")
	// Squares that are finite behind the second step do not help those of the first one.
	spreads := withSpin(evenCells(3, 3, 0), 0, 3e19)
	second := mustBasin(t)(impl.SpreadBasin(spreads, 0.1, 2))
	mustNumber(t)(impl.SquaresInBasin(second))
	wantTold(t, "squares that become less", toldRun(impl.RunBasin(spreads, 0, 0.1, 1, 2)), "no")
	far := withSpin(manyCells(4, 3), 0, 1e4)
	wantNoBasin(t, "carried too far")(impl.StepBasin(far, 100, 0, 1))
	wantTold(t, "a run that is carried too far", toldRun(impl.RunBasin(far, 100, 0, 1, 16)), "no")
	wantBasin(t, "no sweeps, no flows", far)(impl.StepBasin(far, 3e38, 0, 0))
	b := manyCells(4, 3)
	_, few, ok := impl.RunBasin(b, 0, 1e5, 0, 3)
	wantBool(t, "some steps with a great rate", ok, true)
	wantBool(t, "as many sums as steps", len(few) == 3, true)
	wantTold(t, "more steps with a great rate", toldRun(impl.RunBasin(b, 0, 1e5, 0, 16)), "no")
}
