package tests

import (
	"fmt"
	"math"
	"slices"
	"testing"

	"loop.example/g01266/impl"
)

func TestConstantsOfChapter3(t *testing.T) {
	if got := fmt.Sprint(impl.MaxSheet, impl.MaxTicks); got != "48 32" {
		t.Errorf("constants: got %s", got)
	}
}

// TestExamplesOfChapter3 asserts every example at the end of chapter 3.
func TestExamplesOfChapter3(t *testing.T) {
	flat := mustSheet(t)(impl.FlatSheet(3, 2, 1))
	wantTold(t, "the length of the flat sheet", toldNumber(impl.SheetLong(flat)), "40800000")
	wantTold(t, "the bends of the flat sheet", toldNumbers(impl.BendsOf(flat)), "00000000")
	ring := mustSheet(t)(impl.RingSheet(4, 1, 1))
	wantNear(t, "the area of the ring", complex(mustNumber(t)(impl.SheetArea(ring)), 0), 2, 1e-6)
	wantNear(t, "how often the ring goes around 0", complex(mustNumber(t)(impl.AroundPoint(ring, 0)), 0), 1, 1e-6)
}

func TestSheetRows(t *testing.T) {
	rows, calls := sheetRows(), sheetCalls()
	if len(rows) != len(calls) {
		t.Fatalf("%d functions with rows, %d that can be called", len(rows), len(calls))
	}
	for name, call := range calls {
		wantToldRows(t, name, rows[name], call)
	}
}

// withSheets has the functions that require a sheet, with other arguments that are valid for sheets that are closed or open.
func withSheets() map[string]func(s impl.Sheet) string {
	return map[string]func(s impl.Sheet) string{
		"WaveSheet":   func(s impl.Sheet) string { return toldSheet(impl.WaveSheet(s, 1, 1)) },
		"MoveSheet":   func(s impl.Sheet) string { return toldSheet(impl.MoveSheet(s, 1)) },
		"BackSheet":   func(s impl.Sheet) string { return toldSheet(impl.BackSheet(s)) },
		"CutSheet":    func(s impl.Sheet) string { return toldSheet(impl.CutSheet(closedOrOpen(s, true), 1)) },
		"SheetLong":   func(s impl.Sheet) string { return toldNumber(impl.SheetLong(s)) },
		"SheetArea":   func(s impl.Sheet) string { return toldNumber(impl.SheetArea(s)) },
		"SheetSpin":   func(s impl.Sheet) string { return toldNumber(impl.SheetSpin(s)) },
		"GapsOf":      func(s impl.Sheet) string { return toldNumbers(impl.GapsOf(s)) },
		"WidestGap":   func(s impl.Sheet) string { return toldWidest(impl.WidestGap(s)) },
		"BendsOf":     func(s impl.Sheet) string { return toldNumbers(impl.BendsOf(s)) },
		"SheetFlow":   func(s impl.Sheet) string { return toldComplex(impl.SheetFlow(s, complex(9, 9), 0.5)) },
		"SheetFlows":  func(s impl.Sheet) string { return toldFlows(impl.SheetFlows(s, 0.5)) },
		"StepSheet":   func(s impl.Sheet) string { return toldSheet(impl.StepSheet(s, 0.5, 0.1)) },
		"RunSheet":    func(s impl.Sheet) string { return toldRolled(impl.RunSheet(s, 0.5, 0.1, 0)) },
		"MendSheet":   func(s impl.Sheet) string { return toldMended(impl.MendSheet(s, 0.5, 2, 0)) },
		"AroundPoint": func(s impl.Sheet) string { return toldNumber(impl.AroundPoint(closedOrOpen(s, true), complex(9, 9))) },
	}
}

// oddSheets has sheets of too few and too many points, of other numbers of spins, and with numbers that are not finite.
func oddSheets() []impl.Sheet {
	list := []impl.Sheet{{}, {Closed: true}, {Points: []complex64{}, Spins: []float32{}}}
	for _, closed := range []bool{false, true} {
		one, more := manyPoints(1, closed), manyPoints(impl.MaxSheet+1, closed)
		short, long, none := manyPoints(5, closed), manyPoints(5, closed), manyPoints(5, closed)
		short.Spins, long.Spins, none.Spins = short.Spins[:4], append(long.Spins, 1), nil
		list = append(list, one, more, manyPoints(5000, closed), short, long, none, impl.Sheet{Spins: []float32{1, 2}, Closed: closed})
		for _, odd := range oddTicks() {
			for _, i := range []int{0, 2, 4} {
				x, y, spin := manyPoints(5, closed), manyPoints(5, closed), manyPoints(5, closed)
				x.Points[i], y.Points[i], spin.Spins[i] = complex(odd, 1), complex(1, odd), odd
				list = append(list, x, y, spin)
			}
		}
	}
	return list
}

// TestOddSheets: no function takes a sheet that is not valid, whatever it is asked for.
func TestOddSheets(t *testing.T) {
	fine := manyPoints(2, false)
	for i, s := range oddSheets() {
		wantBool(t, fmt.Sprint("sheet ", i), impl.ValidSheet(s), false)
		for name, call := range withSheets() {
			wantTold(t, fmt.Sprint(name, " of sheet ", i), call(s), "no")
		}
		open := closedOrOpen(s, false)
		wantNoSheet(t, fmt.Sprint("sheet ", i, " in front"))(impl.JoinSheets(open, fine))
		wantNoSheet(t, fmt.Sprint("sheet ", i, " behind"))(impl.JoinSheets(fine, open))
		wantNoSheet(t, fmt.Sprint("SplitGap of sheet ", i))(impl.SplitGap(s, 0))
		wantNoSheet(t, fmt.Sprint("ThinPoint of sheet ", i))(impl.ThinPoint(s, 0))
		wantNoWhirls(t, fmt.Sprint("WhirlsOfSheet of sheet ", i))(impl.WhirlsOfSheet(s))
	}
}

// TestValidSheets: sheets have 2 to MaxSheet points, closed ones, too, and all functions take them.
func TestValidSheets(t *testing.T) {
	for _, closed := range []bool{false, true} {
		for _, count := range []int{2, 3, impl.MaxSheet - 1, impl.MaxSheet} {
			s := manyPoints(count, closed)
			wantBool(t, fmt.Sprint(count, " points"), impl.ValidSheet(s), true)
			for name, call := range withSheets() {
				if got := call(s); got == "no" {
					t.Errorf("%s fails with %d points", name, count)
				}
			}
		}
		edge := impl.Sheet{Points: []complex64{complex(3e38, -3e38), complex(minusZero, at(1))}, Spins: []float32{-3e38, minusZero}, Closed: closed}
		wantBool(t, "finite numbers", impl.ValidSheet(edge), true)
	}
}

func TestSameSheets(t *testing.T) {
	list := impl.Sheet{Points: []complex64{complex(1, minusZero), complex(at(0x7f800001), at(infinity))}, Spins: []float32{2, at(0xffc00000)}}
	same := impl.Sheet{Points: []complex64{complex(1, minusZero), complex(at(noNumber), at(infinity))}, Spins: []float32{2, at(noNumber)}}
	wantBool(t, "not-a-numbers", impl.SameSheet(list, same), true)
	wantBool(t, "closed and open", impl.SameSheet(list, closedOrOpen(same, true)), false)
	wantBool(t, "both closed", impl.SameSheet(closedOrOpen(list, true), closedOrOpen(same, true)), true)
	wantBool(t, "nil and empty", impl.SameSheet(impl.Sheet{}, impl.Sheet{Points: []complex64{}, Spins: []float32{}}), true)
	wantBool(t, "less points", impl.SameSheet(list, impl.Sheet{Points: same.Points[:1], Spins: same.Spins}), false)
	wantBool(t, "more points", impl.SameSheet(impl.Sheet{Points: list.Points[:1], Spins: list.Spins}, same), false)
	wantBool(t, "less spins", impl.SameSheet(list, impl.Sheet{Points: same.Points, Spins: same.Spins[:1]}), false)
	wantBool(t, "more spins", impl.SameSheet(impl.Sheet{Points: list.Points}, same), false)
	wantBool(t, "too many points", impl.SameSheet(manyPoints(99, true), manyPoints(99, true)), true)
	whole := manyPoints(4, true)
	for i := range whole.Points {
		x, y, spin := manyPoints(4, true), manyPoints(4, true), manyPoints(4, true)
		x.Points[i] += 1
		y.Points[i] += complex(0, 1)
		spin.Spins[i] += 1
		for _, other := range []impl.Sheet{x, y, spin} {
			wantBool(t, "one other number", impl.SameSheet(whole, other), false)
		}
	}
	for _, a := range edgeBits {
		for _, b := range edgeBits {
			same := bitsOf(at(a)) == bitsOf(at(b))
			wantBool(t, "x", impl.SameSheet(openSheet(at(a), 1, 1), openSheet(at(b), 1, 1)), same)
			wantBool(t, "y", impl.SameSheet(openSheet(1, at(a), 1), openSheet(1, at(b), 1)), same)
			wantBool(t, "the spin", impl.SameSheet(openSheet(1, 1, at(a)), openSheet(1, 1, at(b))), same)
		}
	}
}

func TestFlatSheets(t *testing.T) {
	wantSheet(t, "two points", openSheet(0, 0, -3, 0.5, 0, -3))(impl.FlatSheet(2, 0.5, -3))
	wantSheet(t, "four points", openSheet(0, 0, minusZero, 2, 0, minusZero, 4, 0, minusZero, 6, 0, minusZero))(impl.FlatSheet(4, 2, minusZero))
	for count := int64(2); count <= impl.MaxSheet; count++ {
		s := mustSheet(t)(impl.FlatSheet(count, 0.1, 0.3))
		for k, p := range s.Points {
			wantTold(t, fmt.Sprint(k, " of ", count), toldComplex(p, true), wordsOf([]float32{float32(k) * 0.1, 0}))
		}
		if len(s.Points) != int(count) || s.Closed {
			t.Errorf("%d points: got %d, closed: %v", count, len(s.Points), s.Closed)
		}
	}
	for _, count := range []int64{1, 0, -1, impl.MaxSheet + 1, math.MaxInt64, math.MinInt64, 1<<32 + 3} {
		wantNoSheet(t, fmt.Sprint(count, " points"))(impl.FlatSheet(count, 1, 1))
	}
	for _, odd := range oddLengths() {
		wantNoSheet(t, "an odd gap")(impl.FlatSheet(3, odd, 1))
	}
	for _, odd := range oddTicks() {
		wantNoSheet(t, "an odd spin")(impl.FlatSheet(3, 1, odd))
	}
	wantSheet(t, "just finite", openSheet(0, 0, 1, 3e38, 0, 1))(impl.FlatSheet(2, 3e38, 1))
	wantNoSheet(t, "too long")(impl.FlatSheet(3, 3e38, 1))
}

func TestRingSheets(t *testing.T) {
	wantSheet(t, "four points", closedSheet(2, 0, -3, 0, 2, -3, -2, 0, -3, 0, -2, -3))(impl.RingSheet(4, 2, -3))
	for count := int64(3); count <= impl.MaxSheet; count++ {
		s := mustSheet(t)(impl.RingSheet(count, 0.7, 0.3))
		for k, p := range s.Points {
			phasor := impl.PhasorOf(float64(k) / float64(count))
			wantTold(t, fmt.Sprint(k, " of ", count), toldComplex(p, true), wordsOf([]float32{0.7 * real(phasor), 0.7 * imag(phasor)}))
			wantNumber(t, fmt.Sprint("the spin ", k, " of ", count), s.Spins[k], bitsOf(0.3))
		}
		if len(s.Points) != int(count) || !s.Closed {
			t.Errorf("%d points: got %d, closed: %v", count, len(s.Points), s.Closed)
		}
	}
	for _, count := range []int64{2, 1, 0, -1, impl.MaxSheet + 1, math.MaxInt64, math.MinInt64, 1<<32 + 3} {
		wantNoSheet(t, fmt.Sprint(count, " points"))(impl.RingSheet(count, 1, 1))
	}
	for _, odd := range oddLengths() {
		wantNoSheet(t, "an odd radius")(impl.RingSheet(3, odd, 1))
	}
	for _, odd := range oddTicks() {
		wantNoSheet(t, "an odd spin")(impl.RingSheet(3, 1, odd))
	}
}

func TestWavedAndMovedSheets(t *testing.T) {
	s := closedSheet(minusZero, minusZero, 3, 1, 5, minusZero, 2, 0, 4, -3, -1, 5)
	// The shares of the points are 0, 1/4, 1/2 and 3/4, also around a closed sheet.
	wantSheet(t, "one wave", closedSheet(0, 0, 3, 1, 7, minusZero, 2, 0, 4, -3, -3, 5))(impl.WaveSheet(s, 1, 2))
	wantSheet(t, "no wave", closedSheet(0, 0, 3, 1, 5, minusZero, 2, 0, 4, -3, -1, 5))(impl.WaveSheet(s, 0, 2))
	wantSheet(t, "a wave of no size", closedSheet(0, minusZero, 3, 1, 5, minusZero, 2, 0, 4, -3, -1, 5))(impl.WaveSheet(s, 0, minusZero))
	wantSheet(t, "moved", closedSheet(1, -0.5, 3, 2, 4.5, minusZero, 3, -0.5, 4, -2, -1.5, 5))(impl.MoveSheet(s, complex(1, -0.5)))
	wantSheet(t, "moved by -0", s)(impl.MoveSheet(s, complex(minusZero, minusZero)))
	for _, odd := range oddTicks() {
		wantNoSheet(t, "odd turns")(impl.WaveSheet(s, odd, 1))
		wantNoSheet(t, "an odd size")(impl.WaveSheet(s, 0, odd))
		wantNoSheet(t, "moved by an odd x")(impl.MoveSheet(s, complex(odd, 0)))
		wantNoSheet(t, "moved by an odd y")(impl.MoveSheet(s, complex(0, odd)))
	}
	high := openSheet(0, 0, 1, -3e38, 3e38, 1)
	wantNoSheet(t, "waved too far")(impl.WaveSheet(high, 0.5, 1e38))
	wantNoSheet(t, "moved too far")(impl.MoveSheet(high, -1e38))
	wantNoSheet(t, "moved too far up")(impl.MoveSheet(high, complex(0, 1e38)))
}

func TestCutAndJoinedSheets(t *testing.T) {
	s := closedSheet(1, 2, 3, 4, 5, 6, minusZero, 8, 9)
	wantSheet(t, "cut at the first point", closedOrOpen(s, false))(impl.CutSheet(s, 0))
	wantSheet(t, "cut at the second point", openSheet(4, 5, 6, minusZero, 8, 9, 1, 2, 3))(impl.CutSheet(s, 1))
	wantSheet(t, "cut at the last point", openSheet(minusZero, 8, 9, 1, 2, 3, 4, 5, 6))(impl.CutSheet(s, 2))
	for _, i := range []int64{-1, 3, math.MaxInt64, math.MinInt64, 1 << 32} {
		wantNoSheet(t, fmt.Sprint("cut at ", i))(impl.CutSheet(s, i))
	}
	open := closedOrOpen(s, false)
	wantNoSheet(t, "an open sheet")(impl.CutSheet(open, 0))
	wantSheet(t, "back", closedSheet(minusZero, 8, 9, 4, 5, 6, 1, 2, 3))(impl.BackSheet(s))
	wantSheet(t, "an open one back", openSheet(minusZero, 8, 9, 4, 5, 6, 1, 2, 3))(impl.BackSheet(open))
	other := openSheet(-1, 0, 0.5, -2, minusZero, 0.25)
	wantSheet(t, "joined", openSheet(1, 2, 3, 4, 5, 6, minusZero, 8, 9, -1, 0, 0.5, -2, minusZero, 0.25))(impl.JoinSheets(open, other))
	wantSheet(t, "joined with itself", openSheet(-1, 0, 0.5, -2, minusZero, 0.25, -1, 0, 0.5, -2, minusZero, 0.25))(impl.JoinSheets(other, other))
	wantNoSheet(t, "the first one closed")(impl.JoinSheets(s, other))
	wantNoSheet(t, "the second one closed")(impl.JoinSheets(other, s))
	wantNoSheet(t, "both closed")(impl.JoinSheets(s, s))
	for count := 2; count < impl.MaxSheet-1; count++ {
		a, b := manyPoints(count, false), manyPoints(impl.MaxSheet-count, false)
		joined := mustSheet(t)(impl.JoinSheets(a, b))
		wantTold(t, "a full sheet", wordsOfSheet(joined), wordsOfSheet(impl.Sheet{Points: slices.Concat(a.Points, b.Points), Spins: slices.Concat(a.Spins, b.Spins)}))
		wantNoSheet(t, "one more than a full sheet")(impl.JoinSheets(a, manyPoints(impl.MaxSheet-count+1, false)))
	}
}

func TestWhirlsOfSheets(t *testing.T) {
	want := []impl.Whirl{whirl(1, 2, 3), whirl(minusZero, 5, minusZero)}
	wantWhirls(t, "two points", want...)(impl.WhirlsOfSheet(openSheet(1, 2, 3, minusZero, 5, minusZero)))
	wantWhirls(t, "two points of a closed sheet", want...)(impl.WhirlsOfSheet(closedSheet(1, 2, 3, minusZero, 5, minusZero)))
	for _, closed := range []bool{false, true} {
		full := manyPoints(impl.MaxWhirls, closed)
		list := mustWhirls(t)(impl.WhirlsOfSheet(full))
		for i, w := range list {
			if w.At != full.Points[i] || w.Spin != full.Spins[i] {
				t.Errorf("whirl %d is %v", i, w)
			}
		}
		if len(list) != impl.MaxWhirls {
			t.Errorf("%d whirls", len(list))
		}
		for _, count := range []int{impl.MaxWhirls + 1, impl.MaxSheet} {
			wantNoWhirls(t, fmt.Sprint(count, " points"))(impl.WhirlsOfSheet(manyPoints(count, closed)))
		}
	}
}
