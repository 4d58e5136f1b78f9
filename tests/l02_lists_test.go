package tests

import (
	"fmt"
	"math"
	"testing"

	"loop.example/g01266/impl"
)

func TestListRows(t *testing.T) {
	wantToldRows(t, "TurnWhirls", turnRows, func(in []float32) string { return toldWhirls(impl.TurnWhirls(whirlsOf(in[1:]), in[0])) })
	wantToldRows(t, "PolygonOfWhirls", polygonRows, func(in []float32) string {
		return toldWhirls(impl.PolygonOfWhirls(int64(in[0]), in[1], in[2]))
	})
	wantToldRows(t, "PolygonRate", rateRows, func(in []float32) string {
		return toldNumber(impl.PolygonRate(int64(in[0]), in[1], in[2]))
	})
	wantToldRows(t, "CircleImages", circleRows, func(in []float32) string { return toldWhirls(impl.CircleImages(whirlsOf(in[1:]), in[0])) })
	wantToldRows(t, "NearestWhirls", nearestRows, func(in []float32) string { return toldNearest(impl.NearestWhirls(whirlsOf(in))) })
	wantToldRows(t, "MergeNearest", mergeRows, func(in []float32) string { return toldWhirls(impl.MergeNearest(whirlsOf(in[1:]), in[0])) })
}

func TestMovedWhirls(t *testing.T) {
	list := []impl.Whirl{whirl(1, 2, 3), whirl(minusZero, minusZero, -4), whirl(1<<24, 0.5, 0)}
	wantWhirls(t, "moved", whirl(2, 1.5, 3), whirl(1, -0.5, -4), whirl(1<<24, 0, 0))(impl.MoveWhirls(list, complex(1, -0.5)))
	wantWhirls(t, "moved by -0", list...)(impl.MoveWhirls(list, complex(minusZero, minusZero)))
	wantWhirls(t, "moved by +0", whirl(0, 0, 1))(impl.MoveWhirls([]impl.Whirl{whirl(minusZero, minusZero, 1)}, 0))
	wantNoWhirls(t, "moved too far")(impl.MoveWhirls([]impl.Whirl{whirl(3e38, 0, 1)}, 1e38))
	wantNoWhirls(t, "moved too far up")(impl.MoveWhirls([]impl.Whirl{whirl(0, 0, 1), whirl(0, -3e38, 1)}, complex(0, -1e38)))
	for _, odd := range oddTicks() {
		for _, list := range [][]impl.Whirl{nil, list} {
			wantNoWhirls(t, "moved by an odd x")(impl.MoveWhirls(list, complex(odd, 0)))
			wantNoWhirls(t, "moved by an odd y")(impl.MoveWhirls(list, complex(0, odd)))
			wantNoWhirls(t, "turned by odd turns")(impl.TurnWhirls(list, odd))
		}
	}
}

func TestTurnedWhirls(t *testing.T) {
	list := []impl.Whirl{whirl(1, 2, 3), whirl(-4, 0.5, -5)}
	wantWhirls(t, "a quarter", whirl(-2, 1, 3), whirl(-0.5, -4, -5))(impl.TurnWhirls(list, 0.25))
	wantWhirls(t, "a quarter back", whirl(2, -1, 3), whirl(0.5, 4, -5))(impl.TurnWhirls(list, -0.25))
	wantWhirls(t, "half a turn", whirl(-1, -2, 3), whirl(4, -0.5, -5))(impl.TurnWhirls(list, 0.5))
	wantWhirls(t, "whole turns", list...)(impl.TurnWhirls(list, 7))
	wantWhirls(t, "huge turns", list...)(impl.TurnWhirls(list, 3e38))
	wantNoWhirls(t, "too far")(impl.TurnWhirls([]impl.Whirl{whirl(3e38, 3e38, 1)}, 0.125))
	wantNoWhirls(t, "too far down")(impl.TurnWhirls([]impl.Whirl{whirl(1, 1, 1), whirl(-3e38, -3e38, 1)}, 0.125))
}

func TestMirroredAndScaledWhirls(t *testing.T) {
	list := []impl.Whirl{whirl(1, 2, 3), whirl(minusZero, -0.5, -4), whirl(5, 0, 0)}
	mirrored := []impl.Whirl{whirl(1, -2, -3), whirl(minusZero, 0.5, 4), whirl(5, minusZero, minusZero)}
	wantWhirls(t, "mirrored", mirrored...)(impl.MirrorWhirls(list))
	wantWhirls(t, "mirrored twice", list...)(impl.MirrorWhirls(mirrored))
	wantWhirls(t, "half of the spins", whirl(1, 2, 1.5), whirl(minusZero, -0.5, -2), whirl(5, 0, 0))(impl.ScaleSpins(list, 0.5))
	wantWhirls(t, "opposite spins", whirl(1, 2, -3), whirl(minusZero, -0.5, 4), whirl(5, 0, minusZero))(impl.ScaleSpins(list, -1))
	wantWhirls(t, "no spins", whirl(1, 2, 0), whirl(minusZero, -0.5, minusZero), whirl(5, 0, 0))(impl.ScaleSpins(list, 0))
	wantNoWhirls(t, "too much spin")(impl.ScaleSpins(list, 1e38))
	for _, odd := range oddTicks() {
		wantNoWhirls(t, "spins times an odd number")(impl.ScaleSpins(list, odd))
		wantNoWhirls(t, "no spin times an odd number")(impl.ScaleSpins(list[2:], odd))
	}
}

// oddLengths are neither gaps nor radii.
func oddLengths() []float32 { return append(oddSizes(), 0, minusZero) }

func TestPairs(t *testing.T) {
	wantWhirls(t, "the gap 3", whirl(1.5, 0, -2), whirl(-1.5, minusZero, 2))(impl.PairOfWhirls(3, -2))
	wantWhirls(t, "no spin", whirl(0.5, 0, 0), whirl(-0.5, minusZero, minusZero))(impl.PairOfWhirls(1, 0))
	wantWhirls(t, "the least gap", whirl(0, 0, 1), whirl(minusZero, minusZero, -1))(impl.PairOfWhirls(at(1), 1))
	wantWhirls(t, "the greatest gap", whirl(at(0x7effffff), 0, 1), whirl(at(0xfeffffff), minusZero, -1))(impl.PairOfWhirls(at(0x7f7fffff), 1))
	for _, odd := range oddLengths() {
		wantNoWhirls(t, "an odd gap")(impl.PairOfWhirls(odd, 1))
	}
	for _, odd := range oddTicks() {
		wantNoWhirls(t, "an odd spin")(impl.PairOfWhirls(1, odd))
	}
}

func TestPolygons(t *testing.T) {
	wantWhirls(t, "one whirl", whirl(3, 0, -2))(impl.PolygonOfWhirls(1, 3, -2))
	wantWhirls(t, "two whirls", whirl(3, 0, 1), whirl(-3, 0, 1))(impl.PolygonOfWhirls(2, 3, 1))
	wantWhirls(t, "four whirls", whirl(2, 0, 1), whirl(0, 2, 1), whirl(-2, 0, 1), whirl(0, -2, 1))(impl.PolygonOfWhirls(4, 2, 1))
	for count := int64(1); count <= impl.MaxWhirls; count++ {
		list := mustWhirls(t)(impl.PolygonOfWhirls(count, 0.7, 0.3))
		if len(list) != int(count) {
			t.Fatalf("%d whirls: got %d", count, len(list))
		}
		for k, w := range list {
			phasor := impl.PhasorOf(float64(k) / float64(count))
			wantTold(t, fmt.Sprint(k, " of ", count), wordsOfWhirls([]impl.Whirl{w}), wordsOf([]float32{0.7 * real(phasor), 0.7 * imag(phasor), 0.3}))
		}
	}
	for _, count := range []int64{0, -1, impl.MaxWhirls + 1, math.MaxInt64, math.MinInt64, 1 << 32} {
		wantNoWhirls(t, fmt.Sprint(count, " whirls"))(impl.PolygonOfWhirls(count, 1, 1))
		wantTold(t, fmt.Sprint("the rate of ", count), toldNumber(impl.PolygonRate(count, 1, 1)), "no")
	}
	for _, odd := range oddLengths() {
		wantNoWhirls(t, "an odd radius")(impl.PolygonOfWhirls(3, odd, 1))
		wantTold(t, "the rate with an odd radius", toldNumber(impl.PolygonRate(3, odd, 1)), "no")
		wantTold(t, "the rate of one with an odd radius", toldNumber(impl.PolygonRate(1, odd, 1)), "no")
	}
	for _, odd := range oddTicks() {
		wantNoWhirls(t, "an odd spin")(impl.PolygonOfWhirls(3, 1, odd))
		wantTold(t, "the rate with an odd spin", toldNumber(impl.PolygonRate(3, 1, odd)), "no")
		wantTold(t, "the rate of one with an odd spin", toldNumber(impl.PolygonRate(1, 1, odd)), "no")
	}
}

func TestImages(t *testing.T) {
	list := []impl.Whirl{whirl(1, 2, 3), whirl(0, -0.5, -4)}
	wantWhirls(t, "images in a wall", list[0], list[1], whirl(1, -2, -3), whirl(0, 0.5, 4))(impl.WallImages(list))
	// The quotients are 16 / 5 and 64 for the radius 4, and 4 for the radius 1.
	wantWhirls(t, "images in a circle", whirl(0, -0.5, -4), whirl(0, -32, 4))(impl.CircleImages(list[1:], 4))
	wantWhirls(t, "images in a small circle", whirl(1, 0, 2), whirl(0, -0.5, -4), whirl(1, 0, -2), whirl(0, -2, 4))(impl.CircleImages([]impl.Whirl{whirl(1, 0, 2), list[1]}, 1))
	for _, zero := range []impl.Whirl{whirl(0, 0, 1), whirl(minusZero, 0, 0), whirl(minusZero, minusZero, 2)} {
		for _, radius := range []float32{1, 1e-30, 1e30} {
			wantNoWhirls(t, "a whirl at 0")(impl.CircleImages([]impl.Whirl{whirl(1, 0, 1), zero}, radius))
			wantNoWhirls(t, "a whirl at 0 in front")(impl.CircleImages([]impl.Whirl{zero, whirl(1, 0, 1)}, radius))
		}
	}
	for _, odd := range oddLengths() {
		wantNoWhirls(t, "an odd radius")(impl.CircleImages(list, odd))
		wantNoWhirls(t, "an odd radius and no whirls")(impl.CircleImages(nil, odd))
	}
}

func TestNearest(t *testing.T) {
	list := []impl.Whirl{whirl(0, 0, 1), whirl(10, 0, 1), whirl(0, 5, 1), whirl(13, 4, 1), whirl(0, 10, 1)}
	wantTold(t, "the first of several", toldNearest(impl.NearestWhirls(list)), "00000000 40000000 40a00000")
	wantTold(t, "in the order of i", toldNearest(impl.NearestWhirls(list[1:])), "00000000 40000000 40a00000")
	wantTold(t, "in the order of k", toldNearest(impl.NearestWhirls([]impl.Whirl{whirl(0, 0, 1), whirl(9, 0, 1), whirl(3, 4, 1), whirl(0, -5, 1)})), "00000000 40000000 40a00000")
	wantTold(t, "the last two", toldNearest(impl.NearestWhirls([]impl.Whirl{whirl(0, 0, 1), whirl(9, 0, 1), whirl(9, 8, 1)})), "3f800000 40000000 41000000")
	wantTold(t, "one place", toldNearest(impl.NearestWhirls([]impl.Whirl{whirl(1, 0, 1), whirl(0, 0, 1), whirl(1, minusZero, 0)})), "00000000 40000000 00000000")
	wantTold(t, "two places", toldNearest(impl.NearestWhirls([]impl.Whirl{whirl(1, 0, 1), whirl(0, 0, 1), whirl(0, 0, 1), whirl(1, 0, 1)})), "00000000 40400000 00000000")
	wantTold(t, "the least distance", toldNearest(impl.NearestWhirls([]impl.Whirl{whirl(0, 0, 1), whirl(0, at(1), 1)})), "00000000 3f800000 00000001")
	wantTold(t, "one whirl", toldNearest(impl.NearestWhirls(list[:1])), "no")
	far := []impl.Whirl{whirl(3e38, 0, 1), whirl(-3e38, 0, 1), whirl(-3e38, 3e38, 1)}
	wantTold(t, "too far away", toldNearest(impl.NearestWhirls(far[:2])), "no")
	wantTold(t, "too long for a number", toldNearest(impl.NearestWhirls([]impl.Whirl{whirl(0, 0, 1), whirl(3e38, 3e38, 1)})), "no")
	wantTold(t, "some too far away", toldNearest(impl.NearestWhirls(far)), "3f800000 40000000 7f61b1e6")
	wantTold(t, "32 whirls", toldNearest(impl.NearestWhirls(append(manyWhirls(31), whirl(-2.5, 0.5, 1)))), "00000000 41f80000 3e800000")
}

func TestMerges(t *testing.T) {
	list := []impl.Whirl{whirl(20, 0, 1), whirl(2, 0, 1), whirl(9, 9, 9), whirl(4, 2, 3), whirl(-5, 1, 0)}
	merged := []impl.Whirl{list[0], whirl(3.5, 1.5, 4), list[2], list[4]}
	near := impl.LongOf(complex(2, 2))
	wantWhirls(t, "merged", merged...)(impl.MergeNearest(list, near))
	wantWhirls(t, "far enough", list...)(impl.MergeNearest(list, math.Nextafter32(near, 0)))
	wantWhirls(t, "near by far", merged...)(impl.MergeNearest(list, at(infinity)))
	for _, never := range []float32{at(noNumber), at(signBit + infinity), -1, 0, minusZero} {
		wantWhirls(t, "nothing is near", list...)(impl.MergeNearest(list, never))
		for _, short := range [][]impl.Whirl{nil, list[:1]} {
			wantWhirls(t, "less than two", short...)(impl.MergeNearest(short, never))
		}
	}
	wantWhirls(t, "less than two, near by far", list[:1]...)(impl.MergeNearest(list[:1], at(infinity)))
	far := []impl.Whirl{whirl(3e38, 0, 1), whirl(-3e38, 0, -1)}
	wantWhirls(t, "a distance that is not finite", far...)(impl.MergeNearest(far, at(infinity)))
}

// TestMergedSpins: two whirls whose spins are nothing together are left out, and all others are one.
func TestMergedSpins(t *testing.T) {
	other, last := whirl(9, 9, 4), whirl(-9, 9, 5)
	for _, spin := range []float32{2, -2, 0, minusZero, 3e38, at(1)} {
		list := []impl.Whirl{other, whirl(1, 1, spin), last, whirl(1, 2, -spin)}
		wantWhirls(t, "opposite spins", other, last)(impl.MergeNearest(list, 1))
		wantWhirls(t, "opposite spins of two")(impl.MergeNearest([]impl.Whirl{list[1], list[3]}, 1))
	}
	wantWhirls(t, "at one place", other, whirl(1, 2, 4))(impl.MergeNearest([]impl.Whirl{other, whirl(1, 2, 1), whirl(1, 2, 3)}, minusZero))
	wantWhirls(t, "not between both", whirl(3, 1, 2))(impl.MergeNearest([]impl.Whirl{whirl(1, 1, -2), whirl(2, 1, 4)}, 1))
	wantWhirls(t, "a zero without a sign", whirl(1.5, 0, -2))(impl.MergeNearest([]impl.Whirl{whirl(1, 0, -1), whirl(2, minusZero, -1)}, 1))
	wantNoWhirls(t, "too much spin")(impl.MergeNearest([]impl.Whirl{whirl(0, 0, 3e38), whirl(1e-9, 0, 3e38)}, 1))
	wantNoWhirls(t, "too much impulse")(impl.MergeNearest([]impl.Whirl{whirl(1e30, 0, 1e10), whirl(1e30, 1, 1)}, 1))
}
