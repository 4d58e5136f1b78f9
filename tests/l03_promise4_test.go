package tests

import (
	"fmt"
	"math"
	"slices"
	"testing"

	"loop.example/g01266/impl"
)

// impulseOf adds in long numbers, for sheets of any valid number of points.
func impulseOf(s impl.Sheet) complex64 {
	var sum complex128
	for i, p := range s.Points {
		sum += complex128(p) * complex(float64(s.Spins[i]), 0)
	}
	return complex64(sum)
}

// rollingSheets has sheets that roll up in steps, all of whose points stay apart from one another.
func rollingSheets(t *testing.T) map[string]impl.Sheet {
	flat := mustSheet(t)(impl.FlatSheet(12, 0.25, 0.5))
	full := mustSheet(t)(impl.FlatSheet(impl.MaxSheet, 0.25, -0.25))
	mixed := mustSheet(t)(impl.WaveSheet(mustSheet(t)(impl.FlatSheet(9, 0.5, 0.25)), 1, 0.5))
	for i := range mixed.Spins {
		mixed.Spins[i] += float32(i%4) - 1.5
	}
	ring := mustSheet(t)(impl.RingSheet(40, 2, 0.25))
	egg := mustSheet(t)(impl.MoveSheet(mustSheet(t)(impl.WaveSheet(mustSheet(t)(impl.RingSheet(24, 2, 0.5)), 2, 0.25)), complex(1, 0.5)))
	return map[string]impl.Sheet{
		"flat": flat, "full": full, "mixed": mixed, "ring": ring, "egg": egg,
		"flat with a wave": mustSheet(t)(impl.WaveSheet(flat, 1, 0.25)),
		"two points":       openSheet(0, 0, 2, 1, 0, -1), "two points, there and back": closedSheet(0, 0, 2, 1, 0.5, 1),
	}
}

// TestPromise4Kept: sheets keep their spins and their impulse in steps, nearly, with and without a core.
func TestPromise4Kept(t *testing.T) {
	for name, s := range rollingSheets(t) {
		for _, core := range []float32{0, 0.25} {
			for _, tick := range []float32{0.05, -0.05} {
				what := fmt.Sprintf("%s, the core %v, the tick %v", name, core, tick)
				behind, lengths, ok := impl.RunSheet(s, core, tick, impl.MaxTicks)
				if !ok || len(lengths) != impl.MaxTicks || slices.Equal(behind.Points, s.Points) {
					t.Fatalf("%s: nothing moves: %v", what, behind)
				}
				wantTold(t, what+", the spins", wordsOf(behind.Spins), wordsOf(s.Spins))
				wantBool(t, what+", closed", behind.Closed, s.Closed)
				wantNear(t, what+", the impulse", impulseOf(behind), impulseOf(s), 2e-4)
			}
		}
	}
}

// TestPromise4Spins: a sheet keeps the sum of its spins, nearly, when it is mended.
func TestPromise4Spins(t *testing.T) {
	for name, s := range rollingSheets(t) {
		spin := mustNumber(t)(impl.SheetSpin(s))
		wantSpin := func(what string, s impl.Sheet) {
			t.Helper()
			wantNear(t, name+", "+what, complex(mustNumber(t)(impl.SheetSpin(s)), 0), complex(spin, 0), 1e-5*(1+math.Abs(float64(spin))))
		}
		for i := range int64(len(s.Points)) {
			if split, ok := impl.SplitGap(s, i); ok {
				wantSpin(fmt.Sprint("split at ", i), split)
			}
			if thinned, ok := impl.ThinPoint(s, i); ok {
				wantSpin(fmt.Sprint("thinned at ", i), thinned)
			}
		}
		for _, long := range []float32{0.2, 0.5, 3} {
			mended, _, ok := impl.MendSheet(s, long/2, long, impl.MaxTicks)
			wantBool(t, name+" is mended", ok, true)
			wantSpin(fmt.Sprint("mended up to ", long), mended)
		}
	}
}

// TestPromise4Whole: closed sheets go around points a whole number of times, nearly.
func TestPromise4Whole(t *testing.T) {
	for name, s := range rollingSheets(t) {
		s.Closed = true
		behind, _, ok := impl.RunSheet(s, 0.25, 0.05, 20)
		wantBool(t, name, ok, true)
		for _, sheet := range []impl.Sheet{s, behind, mustSheet(t)(impl.BackSheet(behind))} {
			for k := range 60 {
				point := complex(float32(k%10)/2.3-1.71, float32(k/10)/1.9-1.63)
				around := mustNumber(t)(impl.AroundPoint(sheet, point))
				wantNear(t, fmt.Sprint(name, " around ", point), complex(around, 0), complex(float32(math.Round(float64(around))), 0), 1e-5)
			}
		}
	}
}

// TestPromise4Rings: a ring goes around all points in it once, and around no other ones, also when it goes back, rolls or is mended.
func TestPromise4Rings(t *testing.T) {
	for count := int64(3); count <= impl.MaxSheet; count++ {
		ring := mustSheet(t)(impl.RingSheet(count, 2, 0.5))
		rolled, _, ok := impl.RunSheet(ring, 0.5, 0.05, 8)
		wantBool(t, "it rolls", ok, true)
		mended, _, ok := impl.MendSheet(ring, 0.25, 1, impl.MaxTicks)
		wantBool(t, "it is mended", ok, true)
		for name, s := range map[string]impl.Sheet{"a ring": ring, "rolled": rolled, "mended": mended} {
			for point, times := range map[complex64]float32{0: 1, complex(0.5, -0.25): 1, complex(-0.3, 0.6): 1, complex(2.5, 0): 0, complex(-3, 40): 0} {
				what := fmt.Sprintf("%s of %d points around %v", name, count, point)
				wantNear(t, what, complex(mustNumber(t)(impl.AroundPoint(s, point)), 0), complex(times, 0), 1e-5)
				back := mustSheet(t)(impl.BackSheet(s))
				wantNear(t, what+", back", complex(mustNumber(t)(impl.AroundPoint(back, point)), 0), complex(-times, 0), 1e-5)
			}
		}
	}
}

// TestPromise4Twice: a sheet can go around a point more than once, and both ways.
func TestPromise4Twice(t *testing.T) {
	ring := mustSheet(t)(impl.CutSheet(mustSheet(t)(impl.RingSheet(8, 1, 1)), 3))
	twice := mustSheet(t)(impl.JoinSheets(ring, ring))
	twice.Closed = true
	wantNear(t, "twice", complex(mustNumber(t)(impl.AroundPoint(twice, complex(0.1, 0.2))), 0), 2, 1e-5)
	right := mustSheet(t)(impl.MoveSheet(mustSheet(t)(impl.BackSheet(ring)), 3))
	eight := mustSheet(t)(impl.JoinSheets(ring, right))
	eight.Closed = true
	for point, times := range map[complex64]complex64{complex(0.1, 0.2): 1, complex(3.1, 0.2): -1, complex(0, 4): 0} {
		wantNear(t, fmt.Sprint("an eight around ", point), complex(mustNumber(t)(impl.AroundPoint(eight, point)), 0), times, 1e-5)
	}
}
