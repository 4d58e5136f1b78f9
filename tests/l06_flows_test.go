package tests

import (
	"fmt"
	"math"
	"testing"

	"loop.example/g01266/impl"
)

// twoTurns is the number by which the spins of threads are divided.
const twoTurns = 12.566371

func triangle(spin float32) impl.Thread {
	return thread(spin, impl.Vector{}, vector(4, 0, 0), vector(0, 4, 0))
}

// diamond has a flow along Z that is the same at all of its points.
func diamond(spin float32) impl.Thread {
	return thread(spin, vector(1, 0, 0), vector(0, 1, 0), vector(-1, 0, 0), vector(0, -1, 0))
}

// thereAndBack has a segment, one without length, and one that goes back.
func thereAndBack() impl.Thread {
	return thread(twoTurns, impl.Vector{}, vector(4, 0, 0), vector(4, 0, 0))
}

func TestFlowsOfNoThreads(t *testing.T) {
	for _, core := range []float32{0, minusZero, 1, 3e38} {
		for _, at := range []impl.Vector{{}, vector(minusZero, minusZero, minusZero), vector(1, -2, 3e38)} {
			wantToldVector(t, "no threads", impl.Vector{})(impl.FlowByThreads(nil, at, core))
			wantToldVector(t, "an empty list", impl.Vector{})(impl.FlowByThreads([]impl.Thread{}, at, core))
		}
	}
}

func TestOddArgumentsOfThreads(t *testing.T) {
	for _, list := range [][]impl.Thread{nil, {triangle(1)}, manyThreads(4)} {
		for _, odd := range oddSizes() {
			wantNoVector(t, "an odd core")(impl.FlowByThreads(list, vector(9, 9, 9), odd))
			wantNoThreads(t, "a step with an odd core")(impl.StepThreads(list, odd, 0.5))
			wantNoThreads(t, "a run with an odd core")(impl.RunThreads(list, odd, 0.5, 1))
			wantNoThreads(t, "no steps with an odd core")(impl.RunThreads(list, odd, 0.5, 0))
		}
		for _, odd := range oddTicks() {
			wantNoVector(t, "an odd X")(impl.FlowByThreads(list, vector(odd, 9, 9), 1))
			wantNoVector(t, "an odd Y")(impl.FlowByThreads(list, vector(9, odd, 9), 1))
			wantNoVector(t, "an odd Z")(impl.FlowByThreads(list, vector(9, 9, odd), 1))
			wantNoThreads(t, "a step with an odd tick")(impl.StepThreads(list, 1, odd))
			wantNoThreads(t, "a run with an odd tick")(impl.RunThreads(list, 1, odd, 1))
			wantNoThreads(t, "no steps with an odd tick")(impl.RunThreads(list, 1, odd, 0))
		}
		for _, steps := range []int64{-1, impl.MaxTurns + 1, math.MaxInt64, math.MinInt64, 1 << 32} {
			wantNoThreads(t, fmt.Sprint("a run of ", steps, " steps"))(impl.RunThreads(list, 1, 0.1, steps))
		}
	}
	tooMany := manyThreads(impl.MaxThreads + 1)
	wantNoVector(t, "too many threads")(impl.FlowByThreads(tooMany, vector(9, 9, 9), 1))
	wantNoThreads(t, "a step of too many threads")(impl.StepThreads(tooMany, 1, 0.1))
	wantNoThreads(t, "no steps of too many threads")(impl.RunThreads(tooMany, 1, 0.1, 0))
	wantBool(t, "as many as there can be", impl.AreThreads(mustThreads(t)(impl.StepThreads(manyThreads(impl.MaxThreads), 1, 0.1))), true)
}

// TestFlowsAtEnds: segments that end at a point give nothing to it, with a core and without one.
func TestFlowsAtEnds(t *testing.T) {
	list := []impl.Thread{triangle(twoTurns)}
	wantToldVector(t, "the end of two segments", vector(0, 0, 0.5))(impl.FlowByThreads(list, impl.Vector{}, 0))
	wantToldVector(t, "the core -0", vector(0, 0, 0.5))(impl.FlowByThreads(list, vector(minusZero, minusZero, minusZero), minusZero))
	wantToldVector(t, "twice the spin", vector(0, 0, 1))(impl.FlowByThreads([]impl.Thread{triangle(2 * twoTurns)}, impl.Vector{}, 0))
	wantToldVector(t, "two threads", vector(0, 0, 0.25))(impl.FlowByThreads([]impl.Thread{triangle(twoTurns), triangle(twoTurns / -2)}, impl.Vector{}, 0))
	// The third segment has x = y = 4 and InnerOf 0, so that d is 256 and the square of the core.
	wantToldVector(t, "the core 16", vector(0, 0, 0.25))(impl.FlowByThreads(list, impl.Vector{}, 16))
	wantToldVector(t, "an endless square of the core", impl.Vector{})(impl.FlowByThreads(list, impl.Vector{}, 1e30))
	// d is so small here that the quotient is endless, and nothing times it is not a number.
	wantNoVector(t, "nearly no core")(impl.FlowByThreads(list, impl.Vector{}, 1e-22))
	wantToldVector(t, "a core whose square is 0", vector(0, 0, 0.5))(impl.FlowByThreads(list, impl.Vector{}, 1e-30))
}

// TestFlowsOnLines: on segments and on their lines there is no flow of them.
func TestFlowsOnLines(t *testing.T) {
	list := []impl.Thread{thereAndBack()}
	for _, x := range []float32{-3, 0, at(1), 1, 2, 3.5, 4, 4.5, 100, 1e8} {
		for _, core := range []float32{0, 0.5, 3} {
			wantToldVector(t, fmt.Sprint("at ", x, " with the core ", core), impl.Vector{})(impl.FlowByThreads(list, vector(x, 0, 0), core))
		}
	}
	// What goes there and back gives nothing at any other point, either.
	wantToldVector(t, "beside", impl.Vector{})(impl.FlowByThreads(list, vector(1, 2, 3), 0))
	bent := thread(twoTurns, impl.Vector{}, vector(4, 0, 0), vector(4, 4, 0))
	for _, on := range []impl.Vector{vector(2, 0, 0), vector(4, 1, 0), vector(3, 3, 0), vector(1, 0, 0)} {
		flow := mustVector(t)(impl.FlowByThreads([]impl.Thread{bent}, on, 0))
		wantBool(t, fmt.Sprint("on a segment at ", on), flow.X == 0 && flow.Y == 0 && flow.Z > 0.1, true)
	}
	along := mustVector(t)(impl.FlowByThreads([]impl.Thread{bent}, vector(6, 0, 0), 0))
	wantBool(t, "on the line of a segment", along.X == 0 && along.Y == 0 && along.Z < 0, true)
	p := vector(1, -2, 3)
	point := []impl.Thread{thread(twoTurns, p, p, p)}
	wantToldVector(t, "all points at one place", impl.Vector{})(impl.FlowByThreads(point, p, 0))
	wantToldVector(t, "beside them", impl.Vector{})(impl.FlowByThreads(point, vector(2, 5, 4), 0.5))
}

// TestFarFlows: segments whose d is not a number are left out.
func TestFarFlows(t *testing.T) {
	far := []impl.Thread{thread(1, vector(1e20, 0, 0), vector(-5e19, 9e19, 0), vector(-5e19, -9e19, 0))}
	wantToldVector(t, "far around", impl.Vector{})(impl.FlowByThreads(far, impl.Vector{}, 0))
	wantToldVector(t, "far around with a core", impl.Vector{})(impl.FlowByThreads(far, vector(1, 2, 3), 5))
	wantNoVector(t, "far aside")(impl.FlowByThreads(far, vector(3e38, 0, 0), 0))
	wantNoVector(t, "an endless flow")(impl.FlowByThreads([]impl.Thread{triangle(3e38)}, vector(1e-15, 1e-15, 0), 0))
}

// longThreadFlow is told in 64-bit numbers, by the angles between which a straight segment is seen.
func longThreadFlow(a impl.Thread, at impl.Vector) [3]float64 {
	long := func(v impl.Vector) [3]float64 { return [3]float64{float64(v.X), float64(v.Y), float64(v.Z)} }
	less := func(a, b [3]float64) [3]float64 { return [3]float64{a[0] - b[0], a[1] - b[1], a[2] - b[2]} }
	inner := func(a, b [3]float64) float64 { return a[0]*b[0] + a[1]*b[1] + a[2]*b[2] }
	var flow [3]float64
	for i, p := range a.Points {
		from, to := long(p), long(a.Points[(i+1)%len(a.Points)])
		way := less(to, from)
		size := math.Sqrt(inner(way, way))
		r, s := less(long(at), from), less(long(at), to)
		far := inner(r, way) / size
		foot := [3]float64{from[0] + way[0]/size*far, from[1] + way[1]/size*far, from[2] + way[2]/size*far}
		off := less(long(at), foot)
		h := math.Sqrt(inner(off, off))
		cosines := far/math.Hypot(far, h) - inner(s, way)/size/math.Sqrt(inner(s, s))
		share := float64(a.Spin) / (4 * math.Pi * h * h) * cosines / size
		flow[0] += (way[1]*off[2] - way[2]*off[1]) * share
		flow[1] += (way[2]*off[0] - way[0]*off[2]) * share
		flow[2] += (way[0]*off[1] - way[1]*off[0]) * share
	}
	return flow
}

// TestFlowsAreThoseOfSegments: without a core, flows are those of straight segments of spin, nearly.
func TestFlowsAreThoseOfSegments(t *testing.T) {
	for count := 3; count <= 12; count++ {
		a := manyCorners(count)
		for i, at := range []impl.Vector{vector(0.3, -1, 0.7), vector(9, 8, -7), vector(-4, 0.2, 1.1)} {
			got := mustVector(t)(impl.FlowByThreads([]impl.Thread{a}, at, 0))
			want := longThreadFlow(a, at)
			what := fmt.Sprint(count, " points, place ", i)
			wantLess(t, what, math.Abs(float64(got.X)-want[0])+math.Abs(float64(got.Y)-want[1])+math.Abs(float64(got.Z)-want[2]), 1e-5)
		}
	}
}

// carriedBy moves the points of threads by the flows at others.
func carriedBy(t *testing.T, list, others []impl.Thread, core, tick float32) []impl.Thread {
	t.Helper()
	var moved []impl.Thread
	for i, a := range list {
		for k, p := range a.Points {
			flow := mustVector(t)(impl.FlowByThreads(others, others[i].Points[k], core))
			a = withPoint(a, k, impl.AddVectors(p, impl.ScaleVector(flow, tick)))
		}
		moved = append(moved, a)
	}
	return moved
}

func TestThreadSteps(t *testing.T) {
	for count := range impl.MaxThreads + 1 {
		list := manyThreads(count)
		for _, core := range []float32{0, 0.25, 2} {
			for _, tick := range []float32{0.1, -0.5, 3, 0} {
				what := fmt.Sprint(count, " threads with the core ", core, " and the tick ", tick)
				halfway := carriedBy(t, list, list, core, tick/2)
				want := carriedBy(t, list, halfway, core, tick)
				wantThreads(t, what, want...)(impl.StepThreads(list, core, tick))
				wantBool(t, what+" moves", count == 0 || tick == 0 || wordsOfThreads(want...) != wordsOfThreads(list...), true)
			}
		}
		wantThreads(t, "no tick", list...)(impl.StepThreads(list, 1, 0))
	}
	still := []impl.Thread{manyCorners(32), manyCorners(5)}
	for i := range still {
		still[i].Spin = 0
	}
	wantThreads(t, "no spin", still...)(impl.StepThreads(still, 0, 3e38))
	wantThreads(t, "there and back", thereAndBack())(impl.StepThreads([]impl.Thread{thereAndBack()}, 0.5, 3e38))
	wantThreads(t, "no threads")(impl.StepThreads(nil, 0, -3e38))
}

// TestThreadStepsThatAreNotFinite: a step fails on the way and at its end.
func TestThreadStepsThatAreNotFinite(t *testing.T) {
	// The flow is near 2 at all points, and the same behind half of the tick.
	list := []impl.Thread{diamond(2 * twoTurns)}
	behind := mustThreads(t)(impl.StepThreads(list, 0, 1e38))
	wantLess(t, "not yet the end", math.Abs(float64(behind[0].Points[3].Z)/1e38-2), 1e-5)
	wantNoThreads(t, "the end")(impl.StepThreads(list, 0, 2e38))
	wantNoThreads(t, "the end, back")(impl.StepThreads(list, 0, -2e38))
	wantNoThreads(t, "the end of the last thread")(impl.StepThreads([]impl.Thread{withThreadSpin(triangle(0), 0), diamond(2 * twoTurns)}, 0, 2e38))
	wantNoThreads(t, "halfway")(impl.StepThreads([]impl.Thread{diamond(4 * twoTurns)}, 0, 2e38))
	dense := mustThread(t)(impl.ScaleThread(diamond(3e38), 1e-3))
	wantNoThreads(t, "flows")(impl.StepThreads([]impl.Thread{diamond(1), dense}, 0, 0))
	wantNoThreads(t, "flows of nearly no core")(impl.StepThreads([]impl.Thread{diamond(1)}, 1e-22, 0))
	wantNoThreads(t, "a run")(impl.RunThreads(list, 0, 2e38, 3))
	// Just one point of the first thread is so near to the second one that the flow at it is not finite.
	near := []impl.Thread{diamond(0), thread(3e38, vector(1, 0, 1e-15), vector(3, 1e-15, 0), vector(3, 9, 9))}
	wantNoThreads(t, "flows at one of two")(impl.StepThreads(near, 0, 0))
}

func TestThreadRuns(t *testing.T) {
	for _, core := range []float32{0, 0.25} {
		list := manyThreads(3)
		wantThreads(t, "no steps", list...)(impl.RunThreads(list, core, 0.1, 0))
		behind := list
		for steps := int64(1); steps <= impl.MaxTurns; steps++ {
			behind = mustThreads(t)(impl.StepThreads(behind, core, 0.1))
			wantThreads(t, fmt.Sprint(steps, " steps"), behind...)(impl.RunThreads(list, core, 0.1, steps))
		}
	}
	for _, steps := range []int64{0, 1, impl.MaxTurns} {
		wantThreads(t, "no threads")(impl.RunThreads(nil, 0, 1, steps))
	}
	for _, steps := range []int64{-1, impl.MaxTurns + 1} {
		wantNoThreads(t, fmt.Sprint(steps, " steps of no threads"))(impl.RunThreads(nil, 0, 1, steps))
	}
	// A list of which a run returns a copy stays as it is.
	list := manyThreads(2)
	mustThreads(t)(impl.RunThreads(list, 0, 1, 0))[1].Points[0].X = 99
	wantThreads(t, "the list", list...)(manyThreads(2), true)
}

// TestManyThreadsAtOnce: whichever thread is moved first, the same comes of it.
func TestManyThreadsAtOnce(t *testing.T) {
	var list []impl.Thread
	for i := range impl.MaxThreads {
		list = append(list, mustThread(t)(impl.MoveThread(manyCorners(impl.MaxThread), vector(0, 0, float32(i)*7))))
	}
	want := toldThreads(impl.RunThreads(list, 0.5, 0.1, 4))
	for range 20 {
		wantTold(t, "again", toldThreads(impl.RunThreads(list, 0.5, 0.1, 4)), want)
	}
	broken := append([]impl.Thread{}, list...)
	broken[1] = withThreadSpin(list[1], 3e38)
	for range 20 {
		wantNoThreads(t, "again with one that fails")(impl.StepThreads(broken, 0, 1))
	}
}

func TestRingSpeeds(t *testing.T) {
	for _, radius := range []float32{1, 0.3, 1e-6, 2e7} {
		for _, core := range []float32{1e-3, 0.7, 8, 1e6} {
			for _, spin := range []float32{1, -2.5, 0, minusZero} {
				thin := impl.LogNumber(float32(8*radius)/core) - 0.25
				want := float32(spin / float32(twoTurns*radius) * thin)
				what := fmt.Sprint("the radius ", radius, ", the core ", core, " and the spin ", spin)
				wantTold(t, what, toldNumber(impl.RingSpeed(radius, core, spin)), wordsOf([]float32{want}))
				exact := float64(spin) / (4 * math.Pi * float64(radius)) * (math.Log(8*float64(radius)/float64(core)) - 0.25)
				wantLess(t, what, math.Abs(float64(want)-exact), 1e-5*math.Abs(exact)+1e-30)
			}
		}
	}
	wantTold(t, "a core of eight radii", toldNumber(impl.RingSpeed(1, 8, twoTurns)), wordsOf([]float32{-0.25}))
	wantTold(t, "no spin of the least ring", toldNumber(impl.RingSpeed(at(1), at(1), 0)), wordsOf([]float32{0}))
	wantTold(t, "a fast ring", toldNumber(impl.RingSpeed(at(1), at(1), 1)), "no")
	wantTold(t, "a ring too large", toldNumber(impl.RingSpeed(3e38, 1, 1)), "no")
	wantTold(t, "a ring too large with a large core", toldNumber(impl.RingSpeed(3e38, 3e38, 1)), "no")
	wantTold(t, "a core too small", toldNumber(impl.RingSpeed(1e8, at(1), 1)), "no")
	wantTold(t, "a ring that is large", toldNumber(impl.RingSpeed(4e37, 1e36, 3e38)), wordsOf([]float32{0}))
	for _, odd := range oddLengths() {
		wantTold(t, "an odd radius", toldNumber(impl.RingSpeed(odd, 1, 1)), "no")
		wantTold(t, "an odd core", toldNumber(impl.RingSpeed(1, odd, 1)), "no")
	}
	for _, odd := range oddTicks() {
		wantTold(t, "an odd spin", toldNumber(impl.RingSpeed(1, 1, odd)), "no")
	}
}
