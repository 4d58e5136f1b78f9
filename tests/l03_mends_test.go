package tests

import (
	"fmt"
	"math"
	"testing"

	"loop.example/g01266/impl"
)

func oddIndices(count int) []int64 {
	return []int64{-1, int64(count), int64(count) + 1, math.MaxInt64, math.MinInt64, 1 << 32}
}

func TestSplitGaps(t *testing.T) {
	points := []float32{0, 0, 4, 2, 0, 8, 2, 4, -4}
	open, closed := openSheet(points...), closedSheet(points...)
	// A quarter of both spins goes to the point between them.
	wantSheet(t, "the first gap", openSheet(0, 0, 3, 1, 0, 3, 2, 0, 6, 2, 4, -4))(impl.SplitGap(open, 0))
	wantSheet(t, "the last gap of an open sheet", openSheet(0, 0, 4, 2, 0, 6, 2, 2, 1, 2, 4, -3))(impl.SplitGap(open, 1))
	wantNoSheet(t, "the gap around the end of an open sheet")(impl.SplitGap(open, 2))
	wantSheet(t, "the first gap of a closed sheet", closedSheet(0, 0, 3, 1, 0, 3, 2, 0, 6, 2, 4, -4))(impl.SplitGap(closed, 0))
	wantSheet(t, "the last gap of a closed sheet", closedSheet(0, 0, 3, 2, 0, 8, 2, 4, -3, 1, 2, 0))(impl.SplitGap(closed, 2))
	wantSheet(t, "two points", openSheet(0, 0, 0.75, 1, 0, 0.5, 2, 0, 0.75))(impl.SplitGap(openSheet(0, 0, 1, 2, 0, 1), 0))
	wantNoSheet(t, "behind two points")(impl.SplitGap(openSheet(0, 0, 1, 2, 0, 1), 1))
	wantSheet(t, "back from two points", closedSheet(0, 0, 0.75, 2, 0, 0.75, 1, 0, 0.5))(impl.SplitGap(closedSheet(0, 0, 1, 2, 0, 1), 1))
	wantSheet(t, "at one place", openSheet(minusZero, 3, 0.75, minusZero, 3, 0.5, minusZero, 3, 0.75))(impl.SplitGap(openSheet(minusZero, 3, 1, minusZero, 3, 1), 0))
	for _, i := range oddIndices(3) {
		wantNoSheet(t, fmt.Sprint("the gap ", i))(impl.SplitGap(open, i))
		wantNoSheet(t, fmt.Sprint("the gap ", i, " of a closed sheet"))(impl.SplitGap(closed, i))
	}
}

func TestSplitGapsOfFullSheets(t *testing.T) {
	for _, closed := range []bool{false, true} {
		for _, i := range []int64{0, 20, impl.MaxSheet - 3} {
			split := mustSheet(t)(impl.SplitGap(manyPoints(impl.MaxSheet-1, closed), i))
			if len(split.Points) != impl.MaxSheet {
				t.Errorf("%d points", len(split.Points))
			}
			wantNoSheet(t, "a full sheet")(impl.SplitGap(manyPoints(impl.MaxSheet, closed), i))
		}
	}
	wantNoSheet(t, "points too far away")(impl.SplitGap(openSheet(3e38, 0, 1, 3e38, 1, 1), 0))
	wantNoSheet(t, "points too far up")(impl.SplitGap(openSheet(0, -3e38, 1, 0, -3e38, 1), 0))
	wantNoSheet(t, "too much spin")(impl.SplitGap(openSheet(0, 0, 3e38, 1, 0, 3e38), 0))
	wantSheet(t, "spins that are opposite", openSheet(-3e38, 0, 3, 0, 0, 0, 3e38, 0, -3))(impl.SplitGap(openSheet(-3e38, 0, 4, 3e38, 0, -4), 0))
}

// TestSplitSubnormals: each operation on spins is rounded on its own, also where quarters are not exact.
func TestSplitSubnormals(t *testing.T) {
	a, b := at(7), at(signBit+2)
	wantSheet(t, "tiny spins", openSheet(0, 0, at(5), 1, 0, at(1), 2, 0, at(signBit+2)))(impl.SplitGap(openSheet(0, 0, a, 2, 0, b), 0))
	wantSheet(t, "half a tiny spin", openSheet(0, 0, at(9), 2, 0, at(2)))(impl.ThinPoint(openSheet(0, 0, at(5), 1, 0, at(7), 2, 0, at(signBit+2)), 1))
}

func TestThinnedPoints(t *testing.T) {
	points := []float32{0, 0, 1, 2, 0, 2, 2, 4, 4, 0, 4, 8}
	open, closed := openSheet(points...), closedSheet(points...)
	wantSheet(t, "the first point of an open sheet", openSheet(2, 0, 3, 2, 4, 4, 0, 4, 8))(impl.ThinPoint(open, 0))
	wantSheet(t, "the second point", openSheet(0, 0, 2, 2, 4, 5, 0, 4, 8))(impl.ThinPoint(open, 1))
	wantSheet(t, "the third point", openSheet(0, 0, 1, 2, 0, 4, 0, 4, 10))(impl.ThinPoint(open, 2))
	wantSheet(t, "the last point of an open sheet", openSheet(0, 0, 1, 2, 0, 2, 2, 4, 12))(impl.ThinPoint(open, 3))
	wantSheet(t, "the first point of a closed sheet", closedSheet(2, 0, 2.5, 2, 4, 4, 0, 4, 8.5))(impl.ThinPoint(closed, 0))
	wantSheet(t, "the second point of a closed sheet", closedSheet(0, 0, 2, 2, 4, 5, 0, 4, 8))(impl.ThinPoint(closed, 1))
	wantSheet(t, "the last point of a closed sheet", closedSheet(0, 0, 5, 2, 0, 2, 2, 4, 8))(impl.ThinPoint(closed, 3))
	for i, want := range []string{wordsOfSheet(openSheet(2, 0, 3, 2, 4, 4)), wordsOfSheet(openSheet(0, 0, 2, 2, 4, 5)), wordsOfSheet(openSheet(0, 0, 1, 2, 0, 6))} {
		wantTold(t, fmt.Sprint("the point ", i, " of three"), toldSheet(impl.ThinPoint(openSheet(points[:9]...), int64(i))), want)
	}
	for i, want := range []string{wordsOfSheet(closedSheet(2, 0, 2.5, 2, 4, 4.5)), wordsOfSheet(closedSheet(0, 0, 2, 2, 4, 5)), wordsOfSheet(closedSheet(0, 0, 3, 2, 0, 4))} {
		wantTold(t, fmt.Sprint("the point ", i, " of three around"), toldSheet(impl.ThinPoint(closedSheet(points[:9]...), int64(i))), want)
	}
	for _, i := range []int64{0, 1} {
		wantNoSheet(t, "one of two points")(impl.ThinPoint(openSheet(points[:6]...), i))
		wantNoSheet(t, "one of two points around")(impl.ThinPoint(closedSheet(points[:6]...), i))
	}
	for _, i := range oddIndices(4) {
		wantNoSheet(t, fmt.Sprint("the point ", i))(impl.ThinPoint(open, i))
		wantNoSheet(t, fmt.Sprint("the point ", i, " around"))(impl.ThinPoint(closed, i))
	}
	full := mustSheet(t)(impl.ThinPoint(manyPoints(impl.MaxSheet, true), impl.MaxSheet-1))
	if len(full.Points) != impl.MaxSheet-1 {
		t.Errorf("%d points of a full sheet", len(full.Points))
	}
	wantNoSheet(t, "too much spin in front")(impl.ThinPoint(openSheet(0, 0, 3e38, 1, 0, 3e38, 2, 0, 1), 1))
	wantNoSheet(t, "too much spin behind")(impl.ThinPoint(openSheet(0, 0, 1, 1, 0, 3e38, 2, 0, 3e38), 1))
	wantNoSheet(t, "too much spin at the end")(impl.ThinPoint(openSheet(0, 0, 1, 1, 0, 2e38, 2, 0, 2e38), 2))
	wantSheet(t, "much spin around the end", closedSheet(0, 0, 1e38, 1, 0, 3e38))(impl.ThinPoint(closedSheet(0, 0, 0, 1, 0, 2e38, 2, 0, 2e38), 2))
}

// wantMended checks what MendSheet tells.
func wantMended(t *testing.T, what string, changes int64, want impl.Sheet) func(got impl.Sheet, n int64, ok bool) {
	return func(got impl.Sheet, n int64, ok bool) {
		t.Helper()
		wantTold(t, what, toldMended(got, n, ok), toldMended(want, changes, true))
	}
}

// onLine makes a sheet of points to the right of one another with the spin 4.
func onLine(closed bool, places ...float32) impl.Sheet {
	s := impl.Sheet{Closed: closed}
	for _, x := range places {
		s.Points = append(s.Points, complex(x, 0))
		s.Spins = append(s.Spins, 4)
	}
	return s
}

func withSpins(s impl.Sheet, spins ...float32) impl.Sheet {
	s.Spins = spins
	return s
}

// TestMendsThatChangeNothing: gaps from short to long, both included, stay.
func TestMendsThatChangeNothing(t *testing.T) {
	for _, closed := range []bool{false, true} {
		s := onLine(closed, 0, 2, 5, 9, 12)
		for _, rounds := range []int64{0, 1, impl.MaxTicks} {
			wantMended(t, "gaps from 2 to 4 and 12", 0, s)(impl.MendSheet(s, 2, 12, rounds))
			two := onLine(closed, 0, 1)
			wantMended(t, "two points that are too near", 0, two)(impl.MendSheet(two, 5, 6, rounds))
			wantMended(t, "two points that are far enough", 0, two)(impl.MendSheet(two, 1, 1, rounds))
		}
		wantMended(t, "no rounds", 0, s)(impl.MendSheet(s, 3, 3, 0))
	}
	wide := onLine(false, 3e38, -3e38)
	wantMended(t, "no rounds for a gap that is not finite", 0, wide)(impl.MendSheet(wide, 1, 2, 0))
	wantTold(t, "a round for a gap that is not finite", toldMended(impl.MendSheet(wide, 1, 2, 1)), "no")
	// A sheet of which mending returns a copy stays as it is.
	s := onLine(true, 0, 2, 5)
	copied, _, _ := impl.MendSheet(s, 1, 5, 9)
	copied.Points[0], copied.Spins[0] = 99, 99
	wantSheet(t, "the sheet", onLine(true, 0, 2, 5))(s, true)
}

func TestMendsThatSplit(t *testing.T) {
	s := onLine(false, 0, 2, 6, 10)
	once := withSpins(onLine(false, 0, 2, 4, 6, 10), 4, 3, 2, 3, 4)
	wantMended(t, "the first of the widest gaps", 1, once)(impl.MendSheet(s, 1, 3, 1))
	twice := withSpins(onLine(false, 0, 2, 4, 6, 8, 10), 4, 3, 2, 2.25, 1.75, 3)
	wantMended(t, "both of the widest gaps", 2, twice)(impl.MendSheet(s, 1, 3, 2))
	wantMended(t, "both, and no more", 2, twice)(impl.MendSheet(s, 1, 3, impl.MaxTicks))
	wantMended(t, "just as long", 0, s)(impl.MendSheet(s, 1, 4, impl.MaxTicks))
	around := withSpins(onLine(true, 0, 3, 7, 3.5), 3, 4, 3, 2)
	wantMended(t, "the last gap of a closed sheet", 1, around)(impl.MendSheet(onLine(true, 0, 3, 7), 1, 6, 8))
	wantMended(t, "no gap around the end of an open sheet", 0, onLine(false, 0, 3, 7))(impl.MendSheet(onLine(false, 0, 3, 7), 1, 6, 8))
	// A gap that is too narrow waits until none is too wide.
	mixed := onLine(false, 0, 1, 5)
	wantMended(t, "wide before narrow", 1, withSpins(onLine(false, 0, 1, 3, 5), 4, 3, 2, 3))(impl.MendSheet(mixed, 1.5, 3, 1))
	wantMended(t, "narrow behind wide", 2, withSpins(onLine(false, 0, 3, 5), 5.5, 3.5, 3))(impl.MendSheet(mixed, 1.5, 3, 2))
}

func TestMendsThatThin(t *testing.T) {
	s := onLine(false, 0, 3, 4, 4.5, 7)
	wantMended(t, "the first gap that is narrow", 1, withSpins(onLine(false, 0, 3, 4.5, 7), 4, 6, 6, 4))(impl.MendSheet(s, 2, 9, 1))
	wantMended(t, "all gaps that are narrow", 2, withSpins(onLine(false, 0, 3, 7), 4, 9, 7))(impl.MendSheet(s, 2, 9, 9))
	wantMended(t, "the last gap of an open sheet", 1, withSpins(onLine(false, 0, 3), 4, 8))(impl.MendSheet(onLine(false, 0, 3, 4), 2, 9, 9))
	wantMended(t, "the first gap of an open sheet", 1, withSpins(onLine(false, 0, 4), 6, 6))(impl.MendSheet(onLine(false, 0, 1, 4), 2, 9, 9))
	around := closedSheet(0, 1, 4, 5, 0, 4, 5, 5, 4, 0, 2, 4)
	wantMended(t, "the last gap of a closed sheet", 1, closedSheet(5, 0, 6, 5, 5, 4, 0, 2, 6))(impl.MendSheet(around, 2, 9, 9))
	wantMended(t, "no gap around the end of an open sheet", 0, closedOrOpen(around, false))(impl.MendSheet(closedOrOpen(around, false), 2, 9, 9))
	wantMended(t, "down to two points", 2, withSpins(onLine(false, 0, 3), 9, 7))(impl.MendSheet(onLine(false, 0, 1, 2, 3), 5, 5, impl.MaxTicks))
	place := closedSheet(1, 1, 1, 1, 1, 2, 1, 1, 4, 1, 1, 8)
	wantMended(t, "points at one place", 2, closedSheet(1, 1, 4.5, 1, 1, 10.5))(impl.MendSheet(place, at(1), at(1), impl.MaxTicks))
}

// fullLine makes a sheet of MaxSheet points with gaps of 1, but 0.5 at first and 2 at last.
func fullLine() impl.Sheet {
	places := []float32{0}
	for i := range impl.MaxSheet - 2 {
		places = append(places, float32(i)+0.5)
	}
	return onLine(false, append(places, impl.MaxSheet-0.5)...)
}

// TestMendsOfFullSheets: a gap that cannot be split stays, and a narrow one is thinned in its place.
func TestMendsOfFullSheets(t *testing.T) {
	full := fullLine()
	wantMended(t, "too wide, but full", 0, full)(impl.MendSheet(full, 0.25, 1.5, impl.MaxTicks))
	thinned := mustSheet(t)(impl.ThinPoint(full, 1))
	wantMended(t, "full, and one too narrow", 1, thinned)(impl.MendSheet(full, 0.75, 1.75, 1))
	split := mustSheet(t)(impl.SplitGap(thinned, impl.MaxSheet-3))
	wantMended(t, "full again", 2, split)(impl.MendSheet(full, 0.75, 1.75, impl.MaxTicks))
}

// TestMendsThatFail has changes that fail, and rounds that do.
func TestMendsThatFail(t *testing.T) {
	far := openSheet(3e38, 0, 4, 3e38, 8, 4, 3e38, 9, 4)
	wantMended(t, "no split so far away, but a thin place", 1, openSheet(3e38, 0, 4, 3e38, 8, 8))(impl.MendSheet(far, 2, 3, impl.MaxTicks))
	spins := openSheet(0, 0, 3e38, 1, 0, 3e38, 4, 0, 3e38, 5, 0, 1, 9, 0, 1)
	wantMended(t, "the first thin place alone counts", 0, spins)(impl.MendSheet(spins, 2, 9, impl.MaxTicks))
	// The first change leaves a gap that is too long for a number.
	long := openSheet(-3e38, 0, 1, 0, 0, 2, 3e38, 0, 3)
	behind := openSheet(-3e38, 0, 2, 3e38, 0, 4)
	wantMended(t, "one round", 1, behind)(impl.MendSheet(long, 3.1e38, 3.2e38, 1))
	wantTold(t, "two rounds", toldMended(impl.MendSheet(long, 3.1e38, 3.2e38, 2)), "no")
	wantTold(t, "all rounds", toldMended(impl.MendSheet(long, 3.1e38, 3.2e38, impl.MaxTicks)), "no")
}

func TestOddMendArguments(t *testing.T) {
	s := onLine(true, 0, 2, 5)
	for _, odd := range oddLengths() {
		for _, rounds := range []int64{0, 1} {
			wantTold(t, "an odd short", toldMended(impl.MendSheet(s, odd, 4, rounds)), "no")
			wantTold(t, "an odd long", toldMended(impl.MendSheet(s, 1, odd, rounds)), "no")
			wantTold(t, "both odd", toldMended(impl.MendSheet(s, odd, odd, rounds)), "no")
		}
	}
	for _, rounds := range []int64{-1, impl.MaxTicks + 1, math.MaxInt64, math.MinInt64, 1 << 32} {
		wantTold(t, fmt.Sprint(rounds, " rounds"), toldMended(impl.MendSheet(s, 1, 9, rounds)), "no")
	}
	wantTold(t, "more short than long", toldMended(impl.MendSheet(s, math.Nextafter32(4, 5), 4, 1)), "no")
	wantTold(t, "more short than long, without rounds", toldMended(impl.MendSheet(s, 5, 4, 0)), "no")
}

// TestMendsToAndFro: what a round splits, the next one thins, as often as there are rounds.
func TestMendsToAndFro(t *testing.T) {
	s := onLine(false, 0, 3)
	for rounds := int64(0); rounds <= impl.MaxTicks; rounds++ {
		got, changes, ok := impl.MendSheet(s, 2, 2, rounds)
		points := 2 + int(rounds%2)
		if !ok || changes != rounds || len(got.Points) != points {
			t.Errorf("%d rounds: %v, %d changes, %v", rounds, got, changes, ok)
		}
		wantNumber(t, "the spin", mustNumber(t)(impl.SheetSpin(got)), bitsOf(8))
	}
}
