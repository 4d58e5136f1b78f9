package tests

import (
	"fmt"
	"math"
	"math/cmplx"
	"testing"

	"loop.example/g01266/impl"
)

// someFlocks has whirls that stay apart from one another.
func someFlocks() [][]impl.Whirl {
	return [][]impl.Whirl{
		{whirl(1, 0, turn), whirl(-1, 0, turn)},
		{whirl(1, 0.5, turn), whirl(-1, 0, -2)},
		{whirl(2, 0, 3), whirl(-1, 1.5, 4), whirl(-1, -2, -1.5)},
		{whirl(3, 0, 1), whirl(0, 3, 2), whirl(-3, 0, 3), whirl(0, -3, 4), whirl(6, 6, -5)},
	}
}

func times(x complex64, y complex64) complex64 { return complex64(complex128(x) * complex128(y)) }

func opposite(x complex64) complex64 { return complex64(cmplx.Conj(complex128(x))) }

// TestPromise3Turns: flows turn with their whirls, nearly, and so do steps and runs.
func TestPromise3Turns(t *testing.T) {
	const most = 1e-5
	for i, list := range someFlocks() {
		for _, turns := range []float32{0.25, -0.125, 0.3, 7.01} {
			phasor := impl.PhasorOf(float64(turns))
			turned := mustWhirls(t)(impl.TurnWhirls(list, turns))
			for _, core := range []float32{0, 0.5} {
				what := fmt.Sprintf("list %d, %v turns, the core %v", i, turns, core)
				for _, point := range []complex64{complex(0.5, -0.75), complex(4, 4), list[0].At} {
					flow := mustComplex(t)(impl.FlowAt(list, point, core))
					wantNear(t, what, mustComplex(t)(impl.FlowAt(turned, times(point, phasor), core)), times(flow, phasor), most)
					a, b := mustNumber(t)(impl.StreamAt(list, point, 0.5)), mustNumber(t)(impl.StreamAt(turned, times(point, phasor), 0.5))
					wantNear(t, what+", the stream", complex(b, 0), complex(a, 0), most)
				}
				wantTurned(t, what, mustWhirls(t)(impl.StepWhirls(list, core, 0.5)), mustWhirls(t)(impl.StepWhirls(turned, core, 0.5)), phasor)
				wantTurned(t, what, mustWhirls(t)(impl.RunWhirls(list, core, 0.1, 20)), mustWhirls(t)(impl.RunWhirls(turned, core, 0.1, 20)), phasor)
			}
		}
	}
}

func wantTurned(t *testing.T, what string, list, turned []impl.Whirl, phasor complex64) {
	t.Helper()
	for i, w := range list {
		wantNear(t, what, turned[i].At, times(w.At, phasor), 1e-4)
		wantNumber(t, what+", the spin", turned[i].Spin, bitsOf(w.Spin))
	}
}

// TestPromise3Mirrors: mirrored whirls have mirrored flows, and move as their mirror pictures; moved ones flow alike.
func TestPromise3Mirrors(t *testing.T) {
	for i, list := range someFlocks() {
		what := fmt.Sprint("list ", i)
		mirror := mustWhirls(t)(impl.MirrorWhirls(list))
		by := complex64(complex(-0.5, 2))
		moved := mustWhirls(t)(impl.MoveWhirls(list, by))
		for _, point := range []complex64{complex(0.5, -0.75), complex(4, 4)} {
			flow := mustComplex(t)(impl.FlowAt(list, point, 0.25))
			wantNear(t, what+" mirrored", mustComplex(t)(impl.FlowAt(mirror, opposite(point), 0.25)), opposite(flow), 1e-6)
			wantNear(t, what+" moved", mustComplex(t)(impl.FlowAt(moved, point+by, 0.25)), flow, 1e-5)
		}
		behind := mustWhirls(t)(impl.RunWhirls(list, 0, 0.1, 30))
		for k, w := range mustWhirls(t)(impl.RunWhirls(mirror, 0, 0.1, 30)) {
			wantNear(t, what+" behind 30 steps", w.At, opposite(behind[k].At), 1e-4)
		}
	}
}

// TestPromise3Kept: steps keep the spin, and, without a core, the impulse, the moment and the energy, nearly.
func TestPromise3Kept(t *testing.T) {
	for i, list := range someFlocks() {
		for _, tick := range []float32{0.05, -0.05} {
			behind := mustWhirls(t)(impl.RunWhirls(list, 0, tick, impl.MaxRun))
			what := fmt.Sprintf("list %d, the tick %v", i, tick)
			if impl.SameWhirls(behind, list) {
				t.Errorf("%s: nothing moves", what)
			}
			wantKept(t, what, list, behind, 2e-3)
			parts, _, ok := impl.HalvedWhirls(list, 0, 20*tick, 1e-3)
			wantKept(t, what+", in parts", list, mustWhirls(t)(parts, ok), 5e-3)
		}
	}
}

func wantKept(t *testing.T, what string, list, behind []impl.Whirl, most float64) {
	t.Helper()
	wantNumber(t, what+", the spin", mustNumber(t)(impl.TotalSpin(behind)), bitsOf(mustNumber(t)(impl.TotalSpin(list))))
	wantNear(t, what+", the impulse", mustComplex(t)(impl.ImpulseOf(behind)), mustComplex(t)(impl.ImpulseOf(list)), most)
	a, b := mustNumber(t)(impl.MomentOfSpin(list)), mustNumber(t)(impl.MomentOfSpin(behind))
	wantNear(t, what+", the moment", complex(b, 0), complex(a, 0), most*math.Abs(float64(a)))
	c, d := mustNumber(t)(impl.EnergyOfWhirls(list)), mustNumber(t)(impl.EnergyOfWhirls(behind))
	wantNear(t, what+", the energy", complex(d, 0), complex(c, 0), most*(1+math.Abs(float64(c))))
}

// TestPromise3Polygons: a polygon of whirls turns as its rate tells, nearly.
func TestPromise3Polygons(t *testing.T) {
	for count := int64(1); count <= 6; count++ {
		for _, spin := range []float32{1, -2.5} {
			list := mustWhirls(t)(impl.PolygonOfWhirls(count, 1.5, spin))
			rate := mustNumber(t)(impl.PolygonRate(count, 1.5, spin))
			behind := mustWhirls(t)(impl.RunWhirls(list, 0, 0.05, 100))
			turned := mustWhirls(t)(impl.TurnWhirls(list, 5*rate))
			for k, w := range behind {
				wantNear(t, fmt.Sprintf("%d of %d whirls with the spin %v", k, count, spin), w.At, turned[k].At, 1e-3)
			}
			wantBool(t, "the rate is nothing for one whirl", rate == 0, count == 1)
		}
	}
}

// TestPromise3Images: nothing flows through a wall or a circle with images, nearly.
func TestPromise3Images(t *testing.T) {
	list := []impl.Whirl{whirl(0.5, 0.5, 2), whirl(-1, 0.75, -3), whirl(0.25, 1.5, 1)}
	walls := mustWhirls(t)(impl.WallImages(list))
	circles := mustWhirls(t)(impl.CircleImages(list, 2))
	for k := range 16 {
		x := float32(k-8) / 3
		flow := mustComplex(t)(impl.FlowAt(walls, complex(x, 0), 0.125))
		wantNear(t, "through the wall", complex(imag(flow), 0), 0, 1e-5)
		phasor := impl.PhasorOf(float64(k) / 16)
		flow = mustComplex(t)(impl.FlowAt(circles, 2*phasor, 0))
		out := real(flow)*real(phasor) + imag(flow)*imag(phasor)
		wantNear(t, "out of the circle", complex(out, 0), 0, 1e-5)
	}
}

// TestPromise3Centres: whirls of the same sign go around their centre, which is that of one whirl that both are merged into.
func TestPromise3Centres(t *testing.T) {
	list := []impl.Whirl{whirl(1, 2, 3), whirl(-2, 1, 1.5)}
	centre := mustComplex(t)(impl.CentreOfWhirls(list))
	wantNear(t, "the centre", centre, complex(0, 5.0/3), 1e-6)
	wantNear(t, "the centre behind steps", mustComplex(t)(impl.CentreOfWhirls(mustWhirls(t)(impl.RunWhirls(list, 0, 0.1, 100)))), centre, 1e-4)
	merged := mustWhirls(t)(impl.MergeNearest(list, 9))
	if len(merged) != 1 || merged[0].Spin != 4.5 {
		t.Fatalf("merged: %v", merged)
	}
	wantNear(t, "the merged whirl", merged[0].At, centre, 0)
}
