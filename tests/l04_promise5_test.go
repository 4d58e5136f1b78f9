package tests

import (
	"fmt"
	"math"
	"slices"
	"testing"

	"loop.example/g01266/impl"
)

// stirredBasins has basins of all sizes from 3 to MaxSide, with spins of both signs.
func stirredBasins(t *testing.T) []impl.Basin {
	var list []impl.Basin
	for wide := int64(3); wide <= impl.MaxSide; wide++ {
		for high := int64(3); high <= impl.MaxSide; high++ {
			blob := mustBasin(t)(impl.BlobBasin(wide, high, 0.5, float32(high)-1, 1.5, 4))
			list = append(list, manyCells(wide, high), blob, withSpin(evenCells(wide, high, 0), int(wide), -3))
		}
	}
	return list
}

func nameOf(b impl.Basin) string {
	return fmt.Sprint(b.Wide, " wide, ", b.High, " high, ", b.Spins[:4])
}

// greatestOf tells the greatest absolute value, without the program.
func greatestOf(b impl.Basin) float64 {
	return math.Max(math.Abs(float64(slices.Max(b.Spins))), math.Abs(float64(slices.Min(b.Spins))))
}

// wantNearBasin checks that all spins of both are near to one another.
func wantNearBasin(t *testing.T, what string, got, want impl.Basin, most float64) {
	t.Helper()
	if got.Wide != want.Wide || got.High != want.High || len(got.Spins) != len(want.Spins) {
		t.Fatalf("%s: got a basin of another size", what)
	}
	for i, spin := range got.Spins {
		wantNear(t, fmt.Sprint(what, ", the cell ", i), complex(spin, 0), complex(want.Spins[i], 0), most)
	}
}

// meanOf tells the mean in long numbers.
func meanOf(b impl.Basin) float64 {
	sum := 0.0
	for _, spin := range b.Spins {
		sum += float64(spin)
	}
	return sum / float64(len(b.Spins))
}

// TestPromise5Waves: waves find the stream that belongs to a basin, nearly, and its mean is nothing.
func TestPromise5Waves(t *testing.T) {
	for _, b := range stirredBasins(t) {
		stream := mustBasin(t)(impl.WaveStream(b))
		most := 1e-5 * greatestOf(b)
		wantNear(t, nameOf(b)+", the miss", complex(mustNumber(t)(impl.MissOfStream(b, stream)), 0), 0, most)
		wantNear(t, nameOf(b)+", the mean", complex(float32(meanOf(stream)), 0), 0, most)
		for i := range stream.Spins {
			x, y := int64(i)%b.Wide, int64(i)/b.Wide
			miss := float64(besideOf(stream, x, y)) - 4*float64(stream.Spins[i]) + float64(b.Spins[i]) - meanOf(b)
			wantNear(t, fmt.Sprint(nameOf(b), ", the cell ", i), complex(float32(miss), 0), 0, most)
		}
		if greatestOf(stream) < 0.1 {
			t.Errorf("%s: there is no stream", nameOf(b))
		}
	}
}

// TestPromise5Known: the stream of spins that are one wave is the same wave, nearly, as high as its turns tell.
func TestPromise5Known(t *testing.T) {
	for wide := int64(3); wide <= impl.MaxSide; wide++ {
		high := impl.MaxSide + 3 - wide
		for turns := int64(1); turns < wide; turns++ {
			angle := 2 * math.Pi * float64(turns) / float64(wide)
			wave := ofCells(wide, high, func(x, _ int64) float32 { return float32(math.Cos(angle*float64(x) - 1)) })
			want := ofCells(wide, high, func(x, _ int64) float32 {
				return float32(math.Cos(angle*float64(x)-1) / (2 - 2*math.Cos(angle)))
			})
			what := fmt.Sprint(turns, " turns in ", wide)
			wantNearBasin(t, what, mustBasin(t)(impl.WaveStream(wave)), want, 1e-4)
			turned := ofCells(high, wide, func(x, y int64) float32 { return wave.Spins[y] })
			wantTurned := ofCells(high, wide, func(x, y int64) float32 { return want.Spins[y] })
			wantNearBasin(t, what+" of the rows", mustBasin(t)(impl.WaveStream(turned)), wantTurned, 1e-4)
		}
	}
}

// TestPromise5Likenesses: rolled, mirrored and greater basins have rolled, mirrored and greater streams, nearly, and sums have sums.
func TestPromise5Likenesses(t *testing.T) {
	for _, size := range [][2]int64{{3, 3}, {5, 8}, {16, 7}, {16, 16}} {
		b := manyCells(size[0], size[1])
		stream := mustBasin(t)(impl.WaveStream(b))
		rolled := mustBasin(t)(impl.WaveStream(mustBasin(t)(impl.RollBasin(b, 2, -5))))
		wantNearBasin(t, "rolled", rolled, mustBasin(t)(impl.RollBasin(stream, 2, -5)), 1e-4)
		mirrored := mustBasin(t)(impl.WaveStream(mustBasin(t)(impl.MirrorBasin(b))))
		wantNearBasin(t, "mirrored", mirrored, mustBasin(t)(impl.MirrorBasin(stream)), 1e-4)
		scaled := mustBasin(t)(impl.WaveStream(mustBasin(t)(impl.ScaleBasin(b, -2.5))))
		wantNearBasin(t, "scaled", scaled, mustBasin(t)(impl.ScaleBasin(stream, -2.5)), 1e-4)
		blob := mustBasin(t)(impl.BlobBasin(size[0], size[1], 1, 1, 1.5, 3))
		both := mustBasin(t)(impl.AddBasins(stream, mustBasin(t)(impl.WaveStream(blob))))
		wantNearBasin(t, "added", mustBasin(t)(impl.WaveStream(mustBasin(t)(impl.AddBasins(b, blob)))), both, 1e-4)
	}
}

// TestPromise5Sweeps: sweeps come near to a stream that belongs to a basin, and this is the one of the waves, but for its mean.
func TestPromise5Sweeps(t *testing.T) {
	for wide := int64(3); wide <= 7; wide++ {
		for high := int64(3); high <= 7; high++ {
			b := manyCells(wide, high)
			still := evenCells(wide, high, 0)
			few := mustNumber(t)(impl.MissOfStream(b, mustBasin(t)(impl.SweepStream(b, still, 3))))
			swept := mustBasin(t)(impl.SweepStream(b, still, impl.MaxSweeps))
			many := mustNumber(t)(impl.MissOfStream(b, swept))
			if !(many < few) || !(many < 1e-4) {
				t.Errorf("%d wide and %d high: the miss behind 3 sweeps is %v, and %v behind all", wide, high, few, many)
			}
			even := mustBasin(t)(impl.EvenOut(swept))
			wantNearBasin(t, nameOf(b), even, mustBasin(t)(impl.WaveStream(b)), 1e-3)
		}
	}
}

// wantNoNewExtremes checks that a basin is in the range of another one, nearly.
func wantNoNewExtremes(t *testing.T, what string, before, behind impl.Basin) {
	t.Helper()
	low, high := slices.Min(before.Spins), slices.Max(before.Spins)
	most := float32(1e-5 * greatestOf(before))
	if !(slices.Min(behind.Spins) >= low-most) || !(slices.Max(behind.Spins) <= high+most) {
		t.Errorf("%s: new extremes: from %v and %v to %v and %v", what, low, high, slices.Min(behind.Spins), slices.Max(behind.Spins))
	}
}

// TestPromise5Carried: what is carried has no new extremes, nearly, whatever the flows and the tick are.
func TestPromise5Carried(t *testing.T) {
	changed := 0
	basins := stirredBasins(t)
	for _, b := range basins {
		u, v, ok := impl.FlowsInBasin(mustBasin(t)(impl.WaveStream(b)))
		wantBool(t, "flows", ok, true)
		for _, tick := range []float32{0.1, -0.7, 3, 11} {
			what := fmt.Sprint(nameOf(b), ", the tick ", tick)
			carried := mustBasin(t)(impl.CarryBasin(b, u, v, tick))
			wantNoNewExtremes(t, what, b, carried)
			wantNoNewExtremes(t, what+", by itself", b, mustBasin(t)(impl.CarryBasin(b, b, b, tick)))
			if !slices.Equal(carried.Spins, b.Spins) {
				changed++
			}
		}
	}
	// A spin that is alone is in the middle of its own flows, and stays there in short ticks.
	if changed < 2*len(basins) {
		t.Errorf("only %d times anything is carried", changed)
	}
}

// TestPromise5Between: the spin between cells is between the spins of the four cells around, nearly.
func TestPromise5Between(t *testing.T) {
	b := manyCells(7, 5)
	for k := range 4000 {
		x, y := float32(k%83)*0.61-25, float32(k)*0.49-980
		i, j := int64(math.Floor(float64(x))), int64(math.Floor(float64(y)))
		corners := []float32{spinIn(b, i, j), spinIn(b, i+1, j), spinIn(b, i, j+1), spinIn(b, i+1, j+1)}
		spin := mustNumber(t)(impl.SpinAbout(b, x, y))
		if !(spin >= slices.Min(corners)-1e-4) || !(spin <= slices.Max(corners)+1e-4) {
			t.Errorf("about %v, %v: got %v between %v", x, y, spin, corners)
		}
	}
}

// TestPromise5Runs: runs make no new extremes, nearly, if they spread by a quarter at the most, and do not lose what is flat.
func TestPromise5Runs(t *testing.T) {
	for _, size := range [][2]int64{{3, 3}, {4, 9}, {16, 5}, {16, 16}} {
		b := manyCells(size[0], size[1])
		for _, rate := range []float32{0, 0.1, 0.2} {
			for _, tick := range []float32{0.05, -0.2, 1} {
				behind, squares, ok := impl.RunBasin(b, tick, rate, 10, 16)
				wantBool(t, "a run", ok, true)
				wantNoNewExtremes(t, fmt.Sprint(nameOf(b), ", the tick ", tick, ", the rate ", rate), b, behind)
				most := float32(greatestOf(b)*greatestOf(b)) * float32(len(b.Spins)) * 1.0001
				if len(squares) != 16 || slices.Max(squares) > most {
					t.Errorf("%s: the squares are %v", nameOf(b), squares)
				}
			}
		}
		flat := evenCells(size[0], size[1], -1.5)
		behind, _, ok := impl.RunBasin(flat, 0.5, 0.2, 20, 16)
		wantBasin(t, "what is flat", flat)(behind, ok)
	}
}
