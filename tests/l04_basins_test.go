package tests

import (
	"fmt"
	"math"
	"slices"
	"testing"

	"loop.example/g01266/impl"
)

func TestConstantsOfChapter4(t *testing.T) {
	if got := fmt.Sprint(impl.MaxSide, impl.MaxSweeps); got != "16 200" {
		t.Errorf("constants: got %s", got)
	}
}

// TestExamplesOfChapter4 asserts every example at the end of chapter 4.
func TestExamplesOfChapter4(t *testing.T) {
	for _, spin := range []float32{0, minusZero, 1, -2.5, 0.1, 8e37, at(1)} {
		flat := mustBasin(t)(impl.FlatBasin(5, 4, spin))
		wantBasin(t, fmt.Sprint("the Laplace basin of ", spin), evenCells(5, 4, 0))(impl.LaplaceBasin(flat))
	}
	for i := range 9 {
		one := withSpin(evenCells(3, 3, 0), i, 9)
		wantBasin(t, fmt.Sprint("9 in the cell ", i), withSpin(evenCells(3, 3, -1), i, 8))(impl.EvenOut(one))
	}
}

func TestBasinRows(t *testing.T) {
	rows, calls := basinRows(), basinCalls()
	if len(rows) != len(calls) {
		t.Fatalf("%d functions with rows, %d that can be called", len(rows), len(calls))
	}
	for name, call := range calls {
		wantToldRows(t, name, rows[name], call)
	}
}

// withBasins has the functions that require basins, with the same one for all of them, and other arguments that are valid.
func withBasins() map[string]func(b impl.Basin) string {
	return map[string]func(b impl.Basin) string{
		"SpinAt":         func(b impl.Basin) string { return toldNumber(impl.SpinAt(b, 1, 2)) },
		"PutSpin":        func(b impl.Basin) string { return toldBasin(impl.PutSpin(b, 1, 2, 1)) },
		"AddBasins":      func(b impl.Basin) string { return toldBasin(impl.AddBasins(b, b)) },
		"ScaleBasin":     func(b impl.Basin) string { return toldBasin(impl.ScaleBasin(b, 2)) },
		"RollBasin":      func(b impl.Basin) string { return toldBasin(impl.RollBasin(b, 1, 1)) },
		"MirrorBasin":    func(b impl.Basin) string { return toldBasin(impl.MirrorBasin(b)) },
		"TotalInBasin":   func(b impl.Basin) string { return toldNumber(impl.TotalInBasin(b)) },
		"SquaresInBasin": func(b impl.Basin) string { return toldNumber(impl.SquaresInBasin(b)) },
		"RangeInBasin":   func(b impl.Basin) string { return toldRange(impl.RangeInBasin(b)) },
		"EvenOut":        func(b impl.Basin) string { return toldBasin(impl.EvenOut(b)) },
		"LaplaceBasin":   func(b impl.Basin) string { return toldBasin(impl.LaplaceBasin(b)) },
		"SweepStream":    func(b impl.Basin) string { return toldBasin(impl.SweepStream(b, b, 0)) },
		"MissOfStream":   func(b impl.Basin) string { return toldNumber(impl.MissOfStream(b, b)) },
		"WaveStream":     func(b impl.Basin) string { return toldBasin(impl.WaveStream(b)) },
		"FlowsInBasin":   func(b impl.Basin) string { return toldBasins(impl.FlowsInBasin(b)) },
		"SpinAbout":      func(b impl.Basin) string { return toldNumber(impl.SpinAbout(b, 1.5, -2)) },
		"CarryBasin":     func(b impl.Basin) string { return toldBasin(impl.CarryBasin(b, b, b, 0.5)) },
		"SpreadBasin":    func(b impl.Basin) string { return toldBasin(impl.SpreadBasin(b, 0.1, 0)) },
		"StepBasin":      func(b impl.Basin) string { return toldBasin(impl.StepBasin(b, 0.5, 0.1, 1)) },
		"RunBasin":       func(b impl.Basin) string { return toldRun(impl.RunBasin(b, 0.5, 0.1, 1, 0)) },
	}
}

// oddSides are less than 3, or more than MaxSide.
func oddSides() []int64 {
	return []int64{0, 1, 2, impl.MaxSide + 1, -1, -3, math.MaxInt64, math.MinInt64, 1<<32 + 3}
}

// oddBasins has basins with odd sides, with other numbers of spins than cells, and with numbers that are not finite.
func oddBasins() []impl.Basin {
	list := []impl.Basin{
		{}, {Spins: []float32{}}, {Wide: 1 << 32, High: 1 << 32}, {Wide: 3, High: 3}, manyCells(2, 3), manyCells(3, 2), manyCells(2, 2),
		manyCells(3, 1), manyCells(impl.MaxSide+1, 3), manyCells(3, impl.MaxSide+1), manyCells(impl.MaxSide+1, impl.MaxSide+1),
		{Wide: -3, High: -3, Spins: make([]float32, 9)}, {Wide: 4, High: 3, Spins: make([]float32, 9)},
		{Wide: 3, High: 4, Spins: make([]float32, 9)}, {Wide: 3, High: 3, Spins: make([]float32, 8)},
		{Wide: 3, High: 3, Spins: make([]float32, 10)}, {Wide: 3, High: 3, Spins: make([]float32, 5000)},
	}
	for _, side := range oddSides() {
		list = append(list, impl.Basin{Wide: side, High: 3, Spins: make([]float32, 9)}, impl.Basin{Wide: 3, High: side, Spins: make([]float32, 9)})
	}
	for _, odd := range oddTicks() {
		for _, i := range []int{0, 4, 8} {
			list = append(list, withSpin(manyCells(3, 3), i, odd))
		}
	}
	return list
}

// TestOddBasins: no function takes a basin that is not valid, whatever it is asked for.
func TestOddBasins(t *testing.T) {
	fine := manyCells(3, 3)
	for i, b := range oddBasins() {
		wantBool(t, fmt.Sprint("basin ", i), impl.ValidBasin(b), false)
		for name, call := range withBasins() {
			wantTold(t, fmt.Sprint(name, " of basin ", i), call(b), "no")
		}
		what := fmt.Sprint("basin ", i, " with a fine one")
		wantNoBasin(t, what)(impl.AddBasins(b, fine))
		wantNoBasin(t, what)(impl.AddBasins(fine, b))
		wantNoBasin(t, what)(impl.SweepStream(b, fine, 0))
		wantNoBasin(t, what)(impl.SweepStream(fine, b, 0))
		wantTold(t, what, toldNumber(impl.MissOfStream(b, fine)), "no")
		wantTold(t, what, toldNumber(impl.MissOfStream(fine, b)), "no")
		wantNoBasin(t, what)(impl.CarryBasin(b, fine, fine, 0))
		wantNoBasin(t, what)(impl.CarryBasin(fine, b, fine, 0))
		wantNoBasin(t, what)(impl.CarryBasin(fine, fine, b, 0))
	}
}

// TestBasinsOfDifferentSizes: functions of several basins require equal sizes, of both sides, not equal numbers of cells.
func TestBasinsOfDifferentSizes(t *testing.T) {
	a := manyCells(4, 6)
	for _, b := range []impl.Basin{manyCells(4, 5), manyCells(5, 6), manyCells(6, 4), manyCells(3, 8), manyCells(8, 3), manyCells(4, 7)} {
		what := fmt.Sprint(b.Wide, " wide and ", b.High, " high")
		wantBool(t, what, impl.ValidBasin(b), true)
		wantNoBasin(t, what)(impl.AddBasins(a, b))
		wantNoBasin(t, what)(impl.SweepStream(a, b, 0))
		wantNoBasin(t, what)(impl.SweepStream(a, b, 1))
		wantTold(t, what, toldNumber(impl.MissOfStream(a, b)), "no")
		wantNoBasin(t, what)(impl.CarryBasin(b, a, a, 0))
		wantNoBasin(t, what)(impl.CarryBasin(a, b, a, 0))
		wantNoBasin(t, what)(impl.CarryBasin(a, a, b, 0))
	}
}

// TestValidBasins: sides are from 3 to MaxSide, and all functions take them.
func TestValidBasins(t *testing.T) {
	for wide := int64(3); wide <= impl.MaxSide; wide++ {
		for high := int64(3); high <= impl.MaxSide; high++ {
			b := manyCells(wide, high)
			what := fmt.Sprint(wide, " wide and ", high, " high")
			wantBool(t, what, impl.ValidBasin(b), true)
			for name, call := range withBasins() {
				if got := call(b); got == "no" {
					t.Errorf("%s fails with a basin %s", name, what)
				}
			}
		}
	}
	edge := basin(3, 3, 3e38, -3e38, at(1), at(signBit+1), minusZero, 0, at(0x7f7fffff), at(0xff7fffff), 1)
	wantBool(t, "finite numbers", impl.ValidBasin(edge), true)
}

func TestSameBasins(t *testing.T) {
	b := basin(3, 3, 1, minusZero, at(0x7f800001), at(infinity), 5, 6, 7, 8, 9)
	same := basin(3, 3, 1, minusZero, at(0xffc00000), at(infinity), 5, 6, 7, 8, 9)
	wantBool(t, "not-a-numbers", impl.SameBasin(b, same), true)
	wantBool(t, "nil and empty", impl.SameBasin(impl.Basin{}, impl.Basin{Spins: []float32{}}), true)
	wantBool(t, "too large", impl.SameBasin(manyCells(40, 50), manyCells(40, 50)), true)
	wantBool(t, "wider", impl.SameBasin(b, impl.Basin{Wide: 4, High: 3, Spins: same.Spins}), false)
	wantBool(t, "higher", impl.SameBasin(b, impl.Basin{Wide: 3, High: 4, Spins: same.Spins}), false)
	wantBool(t, "sides that change places", impl.SameBasin(evenCells(3, 4, 1), evenCells(4, 3, 1)), false)
	wantBool(t, "less spins", impl.SameBasin(b, basin(3, 3, same.Spins[:8]...)), false)
	wantBool(t, "more spins", impl.SameBasin(basin(3, 3, b.Spins[:8]...), same), false)
	wantBool(t, "no spins", impl.SameBasin(basin(3, 3), same), false)
	whole := manyCells(4, 3)
	for i, spin := range whole.Spins {
		wantBool(t, "one other number", impl.SameBasin(whole, withSpin(whole, i, spin+1)), false)
	}
	for _, a := range edgeBits {
		for _, b := range edgeBits {
			same := bitsOf(at(a)) == bitsOf(at(b))
			wantBool(t, "the spin", impl.SameBasin(basin(1, 2, 3, at(a)), basin(1, 2, 3, at(b))), same)
		}
	}
}

func TestFlatBasins(t *testing.T) {
	for wide := int64(3); wide <= impl.MaxSide; wide++ {
		for high := int64(3); high <= impl.MaxSide; high++ {
			for _, spin := range []float32{0, minusZero, -2.5, 3e38} {
				wantBasin(t, "a flat basin", evenCells(wide, high, spin))(impl.FlatBasin(wide, high, spin))
			}
		}
	}
	for _, side := range oddSides() {
		wantNoBasin(t, fmt.Sprint(side, " wide"))(impl.FlatBasin(side, 3, 1))
		wantNoBasin(t, fmt.Sprint(side, " high"))(impl.FlatBasin(3, side, 1))
		wantNoBasin(t, fmt.Sprint(side, " wide and high"))(impl.FlatBasin(side, side, 1))
		wantNoBasin(t, fmt.Sprint("a blob ", side, " wide"))(impl.BlobBasin(side, 3, 1, 1, 1, 1))
		wantNoBasin(t, fmt.Sprint("a blob ", side, " high"))(impl.BlobBasin(3, side, 1, 1, 1, 1))
	}
	for _, odd := range oddTicks() {
		wantNoBasin(t, "an odd spin")(impl.FlatBasin(3, 3, odd))
	}
}

// blobOf makes a basin with the spin 2 in the cells with the given indices.
func blobOf(wide, high int64, cells ...int) impl.Basin {
	b := evenCells(wide, high, 0)
	for _, i := range cells {
		b.Spins[i] = 2
	}
	return b
}

func TestBlobs(t *testing.T) {
	wantBasin(t, "in the middle", blobOf(5, 4, 2, 6, 7, 8, 12))(impl.BlobBasin(5, 4, 2, 1, 1, 2))
	wantBasin(t, "not quite as far", blobOf(5, 4, 7))(impl.BlobBasin(5, 4, 2, 1, math.Nextafter32(1, 0), 2))
	wantBasin(t, "between cells", blobOf(5, 4, 6, 7, 11, 12))(impl.BlobBasin(5, 4, 1.5, 1.5, 0.75, 2))
	wantBasin(t, "over the left edge", blobOf(5, 4, 0, 5, 6, 9, 10))(impl.BlobBasin(5, 4, 0, 1, 1, 2))
	wantBasin(t, "over the right edge", blobOf(5, 4, 4, 5, 8, 9, 14))(impl.BlobBasin(5, 4, 4, 1, 1, 2))
	wantBasin(t, "over the first row", blobOf(5, 4, 1, 2, 3, 7, 17))(impl.BlobBasin(5, 4, 2, 0, 1, 2))
	wantBasin(t, "over the last row", blobOf(5, 4, 2, 12, 16, 17, 18))(impl.BlobBasin(5, 4, 2, 3, 1, 2))
	wantBasin(t, "over a corner", blobOf(5, 4, 0, 4, 15, 19))(impl.BlobBasin(5, 4, 4.5, 3.5, 0.75, 2))
	wantBasin(t, "beyond an edge", blobOf(5, 4, 3, 4, 0, 9, 19))(impl.BlobBasin(5, 4, -1, 0, 1, 2))
	// A way is told across an edge once at the most.
	wantBasin(t, "farther beyond an edge", blobOf(5, 4, 0))(impl.BlobBasin(5, 4, -6, 0, 1, 2))
	wantBasin(t, "farther below an edge", blobOf(5, 4, 17))(impl.BlobBasin(5, 4, 2, 8, 1, 2))
	wantBasin(t, "too far", blobOf(5, 4))(impl.BlobBasin(5, 4, -11, 0, 1, 2))
	wantBasin(t, "half of an odd side has a part", blobOf(3, 3, 0, 1, 2, 3, 6))(impl.BlobBasin(3, 3, -0.2, 0, 1.2, 2))
	wantBasin(t, "more than half of an odd side", blobOf(3, 3, 0, 2))(impl.BlobBasin(3, 3, -0.6, 0, 0.6, 2))
	wantBasin(t, "just half of a side", blobOf(4, 4, 0, 1, 2, 3, 4, 8, 12, 5, 7, 13, 15))(impl.BlobBasin(4, 4, 0, 0, 2, 2))
}

func TestBlobsOfOddRadii(t *testing.T) {
	wantBasin(t, "a radius less than 0", blobOf(5, 4, 2, 6, 7, 8, 12))(impl.BlobBasin(5, 4, 2, 1, -1, 2))
	for _, radius := range []float32{0, minusZero, 1e-30, at(1)} {
		wantBasin(t, fmt.Sprint("the radius ", radius), blobOf(5, 4, 7))(impl.BlobBasin(5, 4, 2, 1, radius, 2))
		wantBasin(t, fmt.Sprint("between cells, the radius ", radius), blobOf(5, 4))(impl.BlobBasin(5, 4, 2.25, 1, radius, 2))
	}
	for _, radius := range []float32{9, 1e15, 3e38, -3e38} {
		wantBasin(t, fmt.Sprint("the radius ", radius), evenCells(5, 4, 2))(impl.BlobBasin(5, 4, 2, 1, radius, 2))
	}
	wantBasin(t, "squares that are not finite", blobOf(5, 4))(impl.BlobBasin(5, 4, 3e38, 1, 1e19, 2))
	wantBasin(t, "as little as the radius", evenCells(5, 4, 2))(impl.BlobBasin(5, 4, 2, -3e38, 3e38, 2))
	want := withSpin(evenCells(5, 4, 0), 7, minusZero)
	wantBasin(t, "the spin -0", want)(impl.BlobBasin(5, 4, 2, 1, 0, minusZero))
	for _, odd := range oddTicks() {
		wantNoBasin(t, "an odd x")(impl.BlobBasin(4, 4, odd, 1, 1, 1))
		wantNoBasin(t, "an odd y")(impl.BlobBasin(4, 4, 1, odd, 1, 1))
		wantNoBasin(t, "an odd radius")(impl.BlobBasin(4, 4, 1, 1, odd, 1))
		wantNoBasin(t, "an odd spin")(impl.BlobBasin(4, 4, 1, 1, 1, odd))
		wantNoBasin(t, "an odd spin in no cell")(impl.BlobBasin(4, 4, 1.5, 1, 0, odd))
	}
}

// TestCells: spins are row by row, and cells at the edges are there, but none beyond them.
func TestCells(t *testing.T) {
	for _, b := range []impl.Basin{manyCells(5, 3), manyCells(3, 5), manyCells(impl.MaxSide, impl.MaxSide)} {
		for i, spin := range b.Spins {
			x, y := int64(i)%b.Wide, int64(i)/b.Wide
			wantTold(t, fmt.Sprint("the cell ", x, ", ", y), toldNumber(impl.SpinAt(b, x, y)), wordsOf([]float32{spin}))
			wantBasin(t, fmt.Sprint("put into the cell ", x, ", ", y), withSpin(b, i, minusZero))(impl.PutSpin(b, x, y, minusZero))
		}
		for _, x := range append(oddIndices(int(b.Wide)), -b.Wide, b.Wide-1-math.MaxInt64) {
			wantTold(t, fmt.Sprint("the x ", x), toldNumber(impl.SpinAt(b, x, 1)), "no")
			wantNoBasin(t, fmt.Sprint("put at the x ", x))(impl.PutSpin(b, x, 1, 1))
		}
		for _, y := range append(oddIndices(int(b.High)), -b.High, b.High-1-math.MaxInt64) {
			wantTold(t, fmt.Sprint("the y ", y), toldNumber(impl.SpinAt(b, 1, y)), "no")
			wantNoBasin(t, fmt.Sprint("put at the y ", y))(impl.PutSpin(b, 1, y, 1))
		}
		for _, odd := range oddTicks() {
			wantNoBasin(t, "an odd spin")(impl.PutSpin(b, 1, 1, odd))
		}
	}
	// A basin of which another one is made stays as it is.
	b := manyCells(4, 3)
	put := mustBasin(t)(impl.PutSpin(b, 0, 0, 99))
	put.Spins[5] = 99
	wantBasin(t, "the basin", manyCells(4, 3))(b, true)
}

func TestSumsOfBasins(t *testing.T) {
	a, b := manyCells(4, 5), ofCells(4, 5, func(x, y int64) float32 { return float32(x)/3 - float32(y)*7 })
	want, scaled := basin(4, 5), basin(4, 5)
	for i := range a.Spins {
		want.Spins = append(want.Spins, a.Spins[i]+b.Spins[i])
		scaled.Spins = append(scaled.Spins, a.Spins[i]*0.3)
	}
	wantBasin(t, "sums", want)(impl.AddBasins(a, b))
	wantBasin(t, "sums the other way round", want)(impl.AddBasins(b, a))
	wantBasin(t, "products", scaled)(impl.ScaleBasin(a, 0.3))
	zeros := basin(3, 3, 0, minusZero, 0, minusZero, 1, 1, 1, 1, 1)
	others := basin(3, 3, minusZero, minusZero, 0, 0, -1, 1, 1, 1, 1)
	wantBasin(t, "zeros", basin(3, 3, 0, minusZero, 0, 0, 0, 2, 2, 2, 2))(impl.AddBasins(zeros, others))
	wantBasin(t, "zeros times -1", basin(3, 3, minusZero, 0, minusZero, 0, -1, -1, -1, -1, -1))(impl.ScaleBasin(zeros, -1))
	high := withSpin(evenCells(3, 3, 1), 8, 3e38)
	wantNoBasin(t, "a sum that is not finite")(impl.AddBasins(high, high))
	wantNoBasin(t, "a product that is not finite")(impl.ScaleBasin(high, -2))
	for _, odd := range oddTicks() {
		wantNoBasin(t, "times an odd number")(impl.ScaleBasin(evenCells(3, 3, 0), odd))
	}
}

func TestRolls(t *testing.T) {
	for _, b := range []impl.Basin{manyCells(3, 5), manyCells(7, 3), manyCells(impl.MaxSide, impl.MaxSide-1)} {
		for x := int64(-impl.MaxSide); x <= impl.MaxSide; x++ {
			for y := int64(-impl.MaxSide); y <= impl.MaxSide; y++ {
				want := ofCells(b.Wide, b.High, func(cellX, cellY int64) float32 { return spinIn(b, cellX-x, cellY-y) })
				wantBasin(t, fmt.Sprint("rolled by ", x, " and ", y), want)(impl.RollBasin(b, x, y))
			}
		}
		for _, odd := range []int64{-impl.MaxSide - 1, impl.MaxSide + 1, math.MaxInt64, math.MinInt64, 1 << 32} {
			wantNoBasin(t, fmt.Sprint("rolled to the right by ", odd))(impl.RollBasin(b, odd, 0))
			wantNoBasin(t, fmt.Sprint("rolled up by ", odd))(impl.RollBasin(b, 0, odd))
		}
	}
	three := basin(3, 3, 1, 2, 3, 4, 5, 6, 7, 8, 9)
	wantBasin(t, "to the right", basin(3, 3, 3, 1, 2, 6, 4, 5, 9, 7, 8))(impl.RollBasin(three, 1, 0))
	wantBasin(t, "to the next row", basin(3, 3, 7, 8, 9, 1, 2, 3, 4, 5, 6))(impl.RollBasin(three, 0, 1))
}

func TestMirrors(t *testing.T) {
	b := basin(4, 3, 1, 2, 3, 4, 5, minusZero, 0, 8, 9, 10, 11, 12)
	want := basin(4, 3, -4, -3, -2, -1, -8, minusZero, 0, -5, -12, -11, -10, -9)
	wantBasin(t, "mirrored", want)(impl.MirrorBasin(b))
	wantBasin(t, "mirrored twice", b)(impl.MirrorBasin(want))
	three := basin(3, 3, 1, 2, 3, 4, 5, 6, 7, 8, 9)
	wantBasin(t, "an odd side", basin(3, 3, -3, -2, -1, -6, -5, -4, -9, -8, -7))(impl.MirrorBasin(three))
}

func TestTotals(t *testing.T) {
	wantTold(t, "a total", toldNumber(impl.TotalInBasin(basin(3, 3, 1, 2, 3, 4, 5, 6, 7, 8, -9.5))), wordsOf([]float32{26.5}))
	wantTold(t, "squares", toldNumber(impl.SquaresInBasin(basin(3, 3, 1, 2, 3, -4, 0, 0, 0, 0, -0.5))), wordsOf([]float32{30.25}))
	wantTold(t, "a total of -0", toldNumber(impl.TotalInBasin(evenCells(3, 3, minusZero))), "00000000")
	wantTold(t, "squares of -0", toldNumber(impl.SquaresInBasin(evenCells(3, 3, minusZero))), "00000000")
	// A sum in the other order is 1 more, or less.
	wantTold(t, "a total in order", toldNumber(impl.TotalInBasin(basin(3, 3, 1, 16777216, 1, -16777216, 0, 0, 0, 0, 0))), "00000000")
	wantTold(t, "squares in order", toldNumber(impl.SquaresInBasin(basin(3, 3, 4096, 1, 1, 0, 0, 0, 0, 0, 0))), wordsOf([]float32{16777216}))
	wantTold(t, "squares in the other order", toldNumber(impl.SquaresInBasin(basin(3, 3, 0, 0, 0, 0, 0, 0, 1, 1, 4096))), wordsOf([]float32{16777218}))
	wantTold(t, "a square that is rounded", toldNumber(impl.SquaresInBasin(basin(3, 3, 0, 4097, 0, 0, 0, 0, 1, 0, 0))), wordsOf([]float32{16785408}))
	full := evenCells(impl.MaxSide, impl.MaxSide, 0.5)
	wantTold(t, "the total of all cells", toldNumber(impl.TotalInBasin(full)), wordsOf([]float32{128}))
	wantTold(t, "the squares of all cells", toldNumber(impl.SquaresInBasin(full)), wordsOf([]float32{64}))
	for _, far := range []float32{3e38, -3e38} {
		b := basin(3, 3, far, far, -far, -far, 0, 0, 0, 0, 0)
		wantTold(t, "a total that is not finite on the way", toldNumber(impl.TotalInBasin(b)), "no")
		wantTold(t, "squares that are not finite", toldNumber(impl.SquaresInBasin(b)), "no")
	}
	wantTold(t, "a finite total", toldNumber(impl.TotalInBasin(basin(3, 3, 3e38, -3e38, 3e38, -3e38, 3e38, 0, 0, 0, 0))), wordsOf([]float32{3e38}))
	wantTold(t, "a sum of squares that is not finite", toldNumber(impl.SquaresInBasin(basin(3, 3, 1.5e19, 1.5e19, 0, 0, 0, 0, 0, 0, 0))), "no")
}

func TestRanges(t *testing.T) {
	wantTold(t, "a range", toldRange(impl.RangeInBasin(basin(3, 3, 1, -2, 3, 4.5, 0, -7, 2, 1, 4))), wordsOf([]float32{-7, 4.5}))
	for _, spin := range []float32{0, minusZero, -3, 3e38} {
		wantTold(t, "equal spins", toldRange(impl.RangeInBasin(evenCells(4, 3, spin))), wordsOf([]float32{spin, spin}))
	}
	// Zeros are equal: the first one is told, of whatever sign.
	first := basin(3, 3, 0, minusZero, 0, minusZero, 0, 0, 0, 0, minusZero)
	wantTold(t, "zeros, +0 first", toldRange(impl.RangeInBasin(first)), wordsOf([]float32{0, 0}))
	wantTold(t, "zeros, -0 first", toldRange(impl.RangeInBasin(withSpin(first, 0, minusZero))), wordsOf([]float32{minusZero, minusZero}))
	wantTold(t, "the first least zero", toldRange(impl.RangeInBasin(basin(3, 3, 1, 0, minusZero, 2, 3, minusZero, 0, 1, 1))), wordsOf([]float32{0, 3}))
	wantTold(t, "the first greatest zero", toldRange(impl.RangeInBasin(basin(3, 3, -1, minusZero, 0, -2, -3, 0, minusZero, -1, -1))), wordsOf([]float32{-3, minusZero}))
	for i := range 9 {
		b := basin(3, 3, 1, 2, 3, 4, 5, 6, 7, 8, 9)
		wantTold(t, "the least spin", toldRange(impl.RangeInBasin(withSpin(b, i, -1))), wordsOf([]float32{-1, slices.Max(withSpin(b, i, -1).Spins)}))
		wantTold(t, "the greatest spin", toldRange(impl.RangeInBasin(withSpin(b, i, 10))), wordsOf([]float32{slices.Min(withSpin(b, i, 10).Spins), 10}))
	}
}

// withoutMean has basins for which EvenOut fails: with a total that is not finite, and with a difference that is not.
func withoutMean() []impl.Basin {
	return []impl.Basin{
		basin(3, 3, 3e38, 3e38, 0, 0, 0, 0, 0, 0, 0), basin(3, 3, -3e38, -3e38, 3e38, 3e38, 0, 0, 0, 0, 0),
		basin(3, 3, 3.4e38, -3.4e38, 3.4e38, 0, 0, 0, 0, 0, 0),
	}
}

func TestEvenOut(t *testing.T) {
	for _, spin := range []float32{0, 1, -2.5, at(0x7d000000)} {
		wantBasin(t, fmt.Sprint("flat, ", spin), evenCells(4, 3, 0))(impl.EvenOut(evenCells(4, 3, spin)))
	}
	wantBasin(t, "flat, -0", evenCells(4, 3, minusZero))(impl.EvenOut(evenCells(4, 3, minusZero)))
	wantBasin(t, "in a row", basin(3, 3, -4, -3, -2, -1, 0, 1, 2, 3, 4))(impl.EvenOut(basin(3, 3, 1, 2, 3, 4, 5, 6, 7, 8, 9)))
	mean := float32(1) / 12
	want := ofCells(4, 3, func(x, y int64) float32 { return -mean })
	wantBasin(t, "a mean that is rounded", withSpin(want, 5, 1-mean))(impl.EvenOut(withSpin(evenCells(4, 3, 0), 5, 1)))
	for i, b := range withoutMean() {
		wantNoBasin(t, fmt.Sprint("no mean ", i))(impl.EvenOut(b))
	}
	wantTold(t, "a total without a mean", toldNumber(impl.TotalInBasin(withoutMean()[2])), wordsOf([]float32{3.4e38}))
}
