package tests

import (
	"fmt"
	"testing"

	"loop.example/g01266/impl"
)

// threeFour is a path with the gaps 5, 4 and 8, and 3 from its end to its beginning.
func threeFour(closed bool) impl.Sheet {
	return closedOrOpen(openSheet(0, 0, 1, 3, 4, 2, 3, 8, 4, 3, 0, 8), closed)
}

func TestGaps(t *testing.T) {
	wantTold(t, "the gaps of an open sheet", toldNumbers(impl.GapsOf(threeFour(false))), wordsOf([]float32{5, 4, 8}))
	wantTold(t, "the gaps of a closed sheet", toldNumbers(impl.GapsOf(threeFour(true))), wordsOf([]float32{5, 4, 8, 3}))
	wantTold(t, "the length of an open sheet", toldNumber(impl.SheetLong(threeFour(false))), wordsOf([]float32{17}))
	wantTold(t, "the length of a closed sheet", toldNumber(impl.SheetLong(threeFour(true))), wordsOf([]float32{20}))
	two := openSheet(1, 1, 1, 4, 5, 1)
	wantTold(t, "two points", toldNumbers(impl.GapsOf(two)), wordsOf([]float32{5}))
	wantTold(t, "two points, there and back", toldNumbers(impl.GapsOf(closedOrOpen(two, true))), wordsOf([]float32{5, 5}))
	wantTold(t, "points at one place", toldNumbers(impl.GapsOf(openSheet(1, 0, 1, 1, minusZero, 1, 1, 2, 1, 1, 2, 1))), wordsOf([]float32{0, 2, 0}))
	wantTold(t, "the length of points at one place", toldNumber(impl.SheetLong(closedSheet(1, 2, 1, 1, 2, 1))), "00000000")
	for _, count := range []int{2, 3, impl.MaxSheet - 1, impl.MaxSheet} {
		open, closed := must[[]float32](t)(impl.GapsOf(manyPoints(count, false))), must[[]float32](t)(impl.GapsOf(manyPoints(count, true)))
		if len(open) != count-1 || len(closed) != count {
			t.Errorf("%d points: %d gaps open, %d closed", count, len(open), len(closed))
		}
	}
}

func TestWidestGaps(t *testing.T) {
	wantTold(t, "an open sheet", toldWidest(impl.WidestGap(threeFour(false))), wordsOf([]float32{2, 8}))
	wantTold(t, "the first gap", toldWidest(impl.WidestGap(openSheet(0, 0, 1, 9, 0, 1, 4, 0, 1))), wordsOf([]float32{0, 9}))
	wantTold(t, "the last gap", toldWidest(impl.WidestGap(openSheet(0, 0, 1, 9, 0, 1, 4, 0, 1, 30, 0, 1))), wordsOf([]float32{2, 26}))
	wantTold(t, "the gap around the end", toldWidest(impl.WidestGap(closedSheet(0, 0, 1, 4, 0, 1, 9, 0, 1))), wordsOf([]float32{2, 9}))
	wantTold(t, "the first of several", toldWidest(impl.WidestGap(openSheet(0, 0, 1, 1, 0, 1, 4, 0, 1, 7, 0, 1, 10, 0, 1))), wordsOf([]float32{1, 3}))
	wantTold(t, "there and back", toldWidest(impl.WidestGap(closedSheet(0, 0, 1, 4, 0, 1))), wordsOf([]float32{0, 4}))
	wantTold(t, "points at one place", toldWidest(impl.WidestGap(closedSheet(1, 1, 1, 1, 1, 1, 1, 1, 1))), wordsOf([]float32{0, 0}))
}

// TestAreas: open sheets are closed from the last point to the first one for their area.
func TestAreas(t *testing.T) {
	square := []float32{1, 1, 9, 3, 1, 9, 3, 4, 9, 1, 4, 9}
	for _, closed := range []bool{false, true} {
		s := closedOrOpen(openSheet(square...), closed)
		wantTold(t, "a rectangle", toldNumber(impl.SheetArea(s)), wordsOf([]float32{6}))
		wantTold(t, "a rectangle back", toldNumber(impl.SheetArea(mustSheet(t)(impl.BackSheet(s)))), wordsOf([]float32{-6}))
		wantTold(t, "a triangle", toldNumber(impl.SheetArea(closedOrOpen(openSheet(0, 0, 1, 3, 0, 1, 0, 3, 1), closed))), wordsOf([]float32{4.5}))
		wantTold(t, "two points", toldNumber(impl.SheetArea(closedOrOpen(openSheet(1, 2, 1, 3, 5, 1), closed))), "00000000")
		wantTold(t, "points at one place", toldNumber(impl.SheetArea(closedOrOpen(openSheet(3, 5, 1, 3, 5, 1, 3, 5, 1), closed))), "00000000")
		wantTold(t, "an eight", toldNumber(impl.SheetArea(closedOrOpen(openSheet(-2, -1, 1, 2, 1, 1, 2, -1, 1, -2, 1, 1), closed))), "00000000")
		// No difference is left of products that are rounded on their own.
		wantTold(t, "rounded products", toldNumber(impl.SheetArea(closedOrOpen(openSheet(4097, 4097, 1, 4097, 4097, 1), closed))), "00000000")
	}
}

func TestSheetSpins(t *testing.T) {
	wantTold(t, "the spin", toldNumber(impl.SheetSpin(threeFour(true))), wordsOf([]float32{15}))
	wantTold(t, "spins of nothing", toldNumber(impl.SheetSpin(openSheet(0, 0, minusZero, 1, 0, minusZero))), "00000000")
	const big = 1 << 24
	wantTold(t, "the spin in order", toldNumber(impl.SheetSpin(openSheet(0, 0, big, 1, 0, 1, 2, 0, 1, 3, 0, -big))), "00000000")
	wantTold(t, "the spin in another order", toldNumber(impl.SheetSpin(openSheet(1, 0, 1, 2, 0, 1, 0, 0, big, 3, 0, -big))), "40000000")
}

// TestBends: open sheets have no bends at their ends, and closed ones at all points.
func TestBends(t *testing.T) {
	square := []float32{0, 0, 1, 2, 0, 1, 2, 2, 1, 0, 2, 1}
	wantTold(t, "an open square", toldNumbers(impl.BendsOf(openSheet(square...))), wordsOf([]float32{0.25, 0.25}))
	wantTold(t, "a closed square", toldNumbers(impl.BendsOf(closedSheet(square...))), wordsOf([]float32{0.25, 0.25, 0.25, 0.25}))
	wantTold(t, "two points", toldNumbers(impl.BendsOf(openSheet(square[:6]...))), "")
	wantTold(t, "there and back", toldNumbers(impl.BendsOf(closedSheet(square[:6]...))), wordsOf([]float32{0.5, 0.5}))
	wantTold(t, "a corner of three points", toldNumbers(impl.BendsOf(openSheet(square[:9]...))), wordsOf([]float32{0.25}))
	hook := []float32{0, 0, 1, 1, 0, 1, 2, 0, 1, 2, -1, 1, 3, -1, 1}
	wantTold(t, "in the order of points", toldNumbers(impl.BendsOf(openSheet(hook...))), wordsOf([]float32{0, -0.25, 0.25}))
	wantTold(t, "a right turn of an eighth", toldNumbers(impl.BendsOf(openSheet(0, 0, 1, 1, 0, 1, 2, -1, 1))), wordsOf([]float32{-0.125}))
	wantTold(t, "points at one place", toldNumbers(impl.BendsOf(openSheet(0, 0, 1, 1, 1, 1, 1, 1, 1, 0, 3, 1))), wordsOf([]float32{0, 0}))
	for _, count := range []int{2, 3, impl.MaxSheet - 1, impl.MaxSheet} {
		open, closed := must[[]float32](t)(impl.BendsOf(manyPoints(count, false))), must[[]float32](t)(impl.BendsOf(manyPoints(count, true)))
		if len(open) != count-2 || len(closed) != count {
			t.Errorf("%d points: %d bends open, %d closed", count, len(open), len(closed))
		}
	}
}

func TestAroundPoints(t *testing.T) {
	square := closedSheet(1, 1, 1, -1, 1, 1, -1, -1, 1, 1, -1, 1)
	around := func(s impl.Sheet, x, y float32) string { return toldNumber(impl.AroundPoint(s, complex(x, y))) }
	wantTold(t, "around 0", around(square, 0, 0), wordsOf([]float32{1}))
	wantTold(t, "around 0, back", around(mustSheet(t)(impl.BackSheet(square)), 0, 0), wordsOf([]float32{-1}))
	wantTold(t, "on a corner", around(square, 1, 1), wordsOf([]float32{0.25}))
	wantTold(t, "on a side", around(square, 0, 1), wordsOf([]float32{1}))
	wantTold(t, "there and back", around(closedSheet(1, 0, 1, -1, 0, 1), 0, 0), wordsOf([]float32{1}))
	wantTold(t, "all points there", around(closedSheet(1, 0, 1, 1, minusZero, 1), 1, 0), "00000000")
	wantTold(t, "an open sheet", around(closedOrOpen(square, false), 0, 0), "no")
	for _, odd := range oddTicks() {
		wantTold(t, "an odd x", around(square, odd, 0), "no")
		wantTold(t, "an odd y", around(square, 0, odd), "no")
	}
	wantTold(t, "too far for a product", around(closedSheet(1e25, 0, 1, 0, 1e25, 1, -1, -1, 1), 0, 0), "no")
	wantTold(t, "too far for a difference", around(closedSheet(3e38, 0, 1, 0, 1, 1, 1, 1, 1), -3e38, 0), "no")
}

// TestShapesThatAreNotFinite: functions fail with such numbers, be they on the way or one of several.
func TestShapesThatAreNotFinite(t *testing.T) {
	far := openSheet(3e38, 0, 1, -3e38, 0, 1, 0, 0, 1)
	steep := openSheet(0, 0, 1, 1, 0, 1, 3e38, 3e38, 1)
	for i, s := range []impl.Sheet{far, steep, mustSheet(t)(impl.BackSheet(far)), mustSheet(t)(impl.BackSheet(steep))} {
		what := fmt.Sprint("sheet ", i)
		wantTold(t, what+", its gaps", toldNumbers(impl.GapsOf(s)), "no")
		wantTold(t, what+", its length", toldNumber(impl.SheetLong(s)), "no")
		wantTold(t, what+", its widest gap", toldWidest(impl.WidestGap(s)), "no")
	}
	wantTold(t, "the last gap", toldNumbers(impl.GapsOf(closedSheet(3e38, 0, 1, 0, 0, 1, -3e38, 0, 1))), "no")
	wantTold(t, "gaps that are finite", toldNumbers(impl.GapsOf(openSheet(3e38, 0, 1, 0, 0, 1, -3e38, 0, 1))), wordsOf([]float32{3e38, 3e38}))
	wantTold(t, "their sum", toldNumber(impl.SheetLong(openSheet(3e38, 0, 1, 0, 0, 1, -3e38, 0, 1))), "no")
	wantTold(t, "a spin", toldNumber(impl.SheetSpin(openSheet(0, 0, 3e38, 1, 0, 3e38, 2, 0, -3e38))), "no")
	wantTold(t, "an area", toldNumber(impl.SheetArea(closedSheet(3e25, 0, 1, 0, 3e25, 1))), "no")
	wantTold(t, "an area that ends finite", toldNumber(impl.SheetArea(closedSheet(0, 0, 1, 2e19, 0, 1, 0, 2e19, 1, 0, 0, 1))), "no")
	wantTold(t, "a bend", toldNumbers(impl.BendsOf(openSheet(0, 0, 1, 1e20, 0, 1, 0, 1e20, 1))), "no")
	wantTold(t, "the last bend", toldNumbers(impl.BendsOf(openSheet(0, 0, 1, 1, 0, 1, 2, 1, 1, -3e38, 0, 1, 3e38, 0, 1))), "no")
	wantTold(t, "a bend of a closed sheet", toldNumbers(impl.BendsOf(closedSheet(0, 0, 1, 1, 0, 1, 2, 3e38, 1))), "no")
}
