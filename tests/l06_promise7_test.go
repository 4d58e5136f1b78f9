package tests

import (
	"fmt"
	"math"
	"testing"

	"loop.example/g01266/impl"
)

// sizeOf is told in 64-bit numbers.
func sizeOf(v impl.Vector) float64 {
	return math.Sqrt(float64(v.X)*float64(v.X) + float64(v.Y)*float64(v.Y) + float64(v.Z)*float64(v.Z))
}

// wantOpposite checks that two vectors are opposite, nearly.
func wantOpposite(t *testing.T, what string, a, b impl.Vector, most float64) {
	t.Helper()
	wantLess(t, what, sizeOf(impl.AddVectors(a, b)), most)
}

// threadShapes has threads of many shapes, none of which has more than a few turns of spin.
func threadShapes(t *testing.T) []impl.Thread {
	t.Helper()
	var list []impl.Thread
	for count := 3; count <= impl.MaxThread; count += 4 {
		ring := mustThread(t)(impl.RingThread(int64(count), 1.5, -0.5, 2))
		wave := mustThread(t)(impl.WaveThread(int64(count), 3, 2, 0.5, -3))
		turned := mustThread(t)(impl.MoveThread(mustThread(t)(impl.TurnThread(wave, 0.1)), vector(0.5, -0.25, 0.1)))
		list = append(list, ring, wave, turned, manyCorners(count))
	}
	return list
}

func somePlaces() []impl.Vector {
	return []impl.Vector{{}, vector(0.25, 0.5, -0.75), vector(-3, 2, 1), vector(7, -8, 9), vector(0.01, -0.02, 4)}
}

// TestPromise7Areas: threads that go back have opposite areas and impulses, nearly, and the same lengths and middles, nearly.
func TestPromise7Areas(t *testing.T) {
	for i, a := range threadShapes(t) {
		what := fmt.Sprint("shape ", i)
		back := mustThread(t)(impl.BackThread(a))
		area := mustVector(t)(impl.AreaOfThread(a))
		wantLess(t, what+" has an area", 0.1, sizeOf(area))
		wantOpposite(t, what+", the area", area, mustVector(t)(impl.AreaOfThread(back)), 1e-4)
		wantOpposite(t, what+", the impulse", mustVector(t)(impl.ImpulseOfThread(a)), mustVector(t)(impl.ImpulseOfThread(back)), 3e-4)
		middle := impl.ScaleVector(mustVector(t)(impl.MiddleOfThread(a)), -1)
		wantOpposite(t, what+", the middle", middle, mustVector(t)(impl.MiddleOfThread(back)), 1e-5)
		long, longBack := mustNumber(t)(impl.LengthOfThread(a)), mustNumber(t)(impl.LengthOfThread(back))
		wantLess(t, what+", the length", math.Abs(float64(long)-float64(longBack)), 1e-5*float64(long))
	}
}

// TestPromise7Flows: threads that go back have opposite flows, nearly, with a core and without one.
func TestPromise7Flows(t *testing.T) {
	shapes := threadShapes(t)
	for i, a := range shapes {
		back := mustThread(t)(impl.BackThread(a))
		other := shapes[(i+5)%len(shapes)]
		otherBack := mustThread(t)(impl.BackThread(other))
		for k, at := range append(somePlaces(), a.Points[1], impl.BetweenVectors(a.Points[0], a.Points[1], 0.5)) {
			for _, core := range []float32{0.1, 1} {
				what := fmt.Sprint("shape ", i, ", place ", k, ", core ", core)
				flow := mustVector(t)(impl.FlowByThreads([]impl.Thread{a}, at, core))
				wantOpposite(t, what, flow, mustVector(t)(impl.FlowByThreads([]impl.Thread{back}, at, core)), 1e-4*(1+sizeOf(flow)))
				both := mustVector(t)(impl.FlowByThreads([]impl.Thread{a, other}, at, core))
				wantOpposite(t, what+", two threads", both, mustVector(t)(impl.FlowByThreads([]impl.Thread{back, otherBack}, at, core)), 1e-4*(1+sizeOf(both)))
				// The flow is opposite, too, if the spin is, so that both changes leave it as it is.
				spun := mustVector(t)(impl.FlowByThreads([]impl.Thread{withThreadSpin(back, -a.Spin)}, at, core))
				wantOpposite(t, what+", the opposite spin", impl.ScaleVector(flow, -1), spun, 1e-4*(1+sizeOf(flow)))
			}
		}
		far := mustVector(t)(impl.FlowByThreads([]impl.Thread{a}, vector(20, 3, -9), 0))
		wantOpposite(t, fmt.Sprint("shape ", i, " from far"), far, mustVector(t)(impl.FlowByThreads([]impl.Thread{back}, vector(20, 3, -9), 0)), 1e-6)
		wantLess(t, fmt.Sprint("shape ", i, " has a flow"), 1e-6, sizeOf(far))
	}
}

// TestPromise7Steps: threads that go back move oppositely, nearly: as the threads do for the opposite tick.
func TestPromise7Steps(t *testing.T) {
	for i, a := range threadShapes(t) {
		b := mustThread(t)(impl.MoveThread(manyCorners(7), vector(0.5, 0, 6)))
		backA, backB := mustThread(t)(impl.BackThread(a)), mustThread(t)(impl.BackThread(b))
		for _, tick := range []float32{0.05, -0.2} {
			moved := mustThreads(t)(impl.RunThreads([]impl.Thread{a, b}, 0.5, tick, 3))
			movedBack := mustThreads(t)(impl.RunThreads([]impl.Thread{backA, backB}, 0.5, -tick, 3))
			for k := range moved {
				same := mustThread(t)(impl.BackThread(movedBack[k]))
				for j, p := range moved[k].Points {
					what := fmt.Sprint("shape ", i, ", tick ", tick, ", thread ", k, ", point ", j)
					wantOpposite(t, what, impl.ScaleVector(p, -1), same.Points[j], 1e-3)
				}
			}
			wantBool(t, fmt.Sprint("shape ", i, " moves"), wordsOfThreads(moved...) != wordsOfThreads(a, b), true)
		}
	}
}

// ringAcross is a ring around a line along Y, through a point on the axis of X: it goes up where it is nearer to less X.
func ringAcross(t *testing.T, count int64, radius, x float32) impl.Thread {
	t.Helper()
	ring := mustThread(t)(impl.RingThread(count, radius, 0, -2))
	for i, p := range ring.Points {
		ring.Points[i] = vector(p.X+x, p.Z, -p.Y)
	}
	return ring
}

// wantLink checks the integer of a link, and that the link is near to it.
func wantLink(t *testing.T, what string, want int64, most float64) func(link float32, whole int64, ok bool) {
	return func(link float32, whole int64, ok bool) {
		t.Helper()
		if !ok || whole != want || math.Abs(float64(link)-float64(want)) > most {
			t.Errorf("%s: got %v, %v, %v, want nearly %v", what, link, whole, ok, want)
		}
	}
}

// TestPromise7Rings: rings in one another are linked once, and others are not.
func TestPromise7Rings(t *testing.T) {
	for _, count := range []int64{16, 20, 27, impl.MaxThread} {
		ring := mustThread(t)(impl.RingThread(count, 2, 0, 1))
		for _, other := range []int64{16, 23, impl.MaxThread} {
			for _, radius := range []float32{1, 1.5, 2.25} {
				across := ringAcross(t, other, radius, 2)
				what := fmt.Sprint(count, " points and ", other, " with the radius ", radius)
				wantLink(t, what, 1, 0.1)(impl.LinkOfThreads(ring, across))
				wantLink(t, what+", the other way round", 1, 0.1)(impl.LinkOfThreads(across, ring))
				wantLink(t, what+", one back", -1, 0.1)(impl.LinkOfThreads(mustThread(t)(impl.BackThread(ring)), across))
				wantLink(t, what+", both back", 1, 0.1)(impl.LinkOfThreads(mustThread(t)(impl.BackThread(ring)), mustThread(t)(impl.BackThread(across))))
				wantLink(t, what+", on the other side", -1, 0.1)(impl.LinkOfThreads(ring, ringAcross(t, other, radius, -2)))
				wantLink(t, what+", aside", 0, 0.1)(impl.LinkOfThreads(ring, ringAcross(t, other, radius, 6)))
				wantLink(t, what+", above", 0, 0.1)(impl.LinkOfThreads(ring, mustThread(t)(impl.RingThread(other, radius, 1.5, 1))))
			}
			wantLink(t, "a small ring inside", 0, 0.1)(impl.LinkOfThreads(ring, ringAcross(t, other, 0.5, 0)))
			wantLink(t, "a large ring around", 0, 0.1)(impl.LinkOfThreads(ring, ringAcross(t, other, 5, 0)))
		}
	}
}

// TestPromise7LinksStay: threads that are moved, turned, enlarged and shifted together are linked as before, and joined ones as both together.
func TestPromise7LinksStay(t *testing.T) {
	ring := mustThread(t)(impl.WaveThread(impl.MaxThread, 2, 2, 0.25, 1))
	across := ringAcross(t, 16, 1, 2)
	change := map[string]func(a impl.Thread) impl.Thread{
		"moved":    func(a impl.Thread) impl.Thread { return mustThread(t)(impl.MoveThread(a, vector(3, -4, 5))) },
		"turned":   func(a impl.Thread) impl.Thread { return mustThread(t)(impl.TurnThread(a, 0.3)) },
		"enlarged": func(a impl.Thread) impl.Thread { return mustThread(t)(impl.ScaleThread(a, 7)) },
		"shifted":  func(a impl.Thread) impl.Thread { return mustThread(t)(impl.ShiftThread(a, 5)) },
	}
	for what, changed := range change {
		wantLink(t, what, 1, 0.1)(impl.LinkOfThreads(changed(ring), changed(across)))
	}
	wantLink(t, "mirrored", -1, 0.1)(impl.LinkOfThreads(mustThread(t)(impl.ScaleThread(ring, -1)), mustThread(t)(impl.ScaleThread(across, -1))))
	even := mustThread(t)(impl.RespaceThread(across, impl.MaxThread))
	wantLink(t, "with even points", 1, 0.1)(impl.LinkOfThreads(ring, even))
	twice := mustThread(t)(impl.JoinThreads(across, across, 0, 0))
	wantLink(t, "two rings that are one thread", 2, 0.2)(impl.LinkOfThreads(ring, twice))
	none := mustThread(t)(impl.JoinThreads(across, mustThread(t)(impl.BackThread(across)), 0, 15))
	wantLink(t, "a ring and the ring back", 0, 0.1)(impl.LinkOfThreads(ring, none))
	first, second, ok := impl.SplitThread(twice, 0, 16)
	wantBool(t, "split", ok, true)
	wantLink(t, "the first part", 1, 0.1)(impl.LinkOfThreads(ring, first))
	wantLink(t, "the second part", 1, 0.1)(impl.LinkOfThreads(ring, second))
}

// TestRingsGoAhead: rings go along their axis, and small ones are faster.
func TestRingsGoAhead(t *testing.T) {
	last := math.Inf(1)
	for _, radius := range []float32{0.5, 1, 2, 4} {
		ring := mustThread(t)(impl.RingThread(24, radius, 0, 1))
		behind := mustThreads(t)(impl.RunThreads([]impl.Thread{ring}, radius/8, 0.1, 10))[0]
		gone := impl.LessVectors(mustVector(t)(impl.MiddleOfThread(behind)), mustVector(t)(impl.MiddleOfThread(ring)))
		wantLess(t, fmt.Sprint("aside with the radius ", radius), math.Hypot(float64(gone.X), float64(gone.Y)), 1e-5)
		wantBool(t, fmt.Sprint("ahead with the radius ", radius), gone.Z > 0 && float64(gone.Z) < last, true)
		last = float64(gone.Z)
		wantLess(t, "the same size", math.Abs(float64(mustNumber(t)(impl.LengthOfThread(behind)))/float64(mustNumber(t)(impl.LengthOfThread(ring)))-1), 1e-4)
	}
}
