package tests

import (
	"fmt"
	"math"
	"slices"
	"testing"

	"loop.example/g01266/impl"
)

func TestConstantsOfChapter6(t *testing.T) {
	if got := fmt.Sprint(impl.MaxThread, impl.MaxThreads, impl.MaxTurns); got != "32 4 32" {
		t.Errorf("constants: got %s", got)
	}
}

// TestExamplesOfChapter6 asserts every example at the end of chapter 6.
func TestExamplesOfChapter6(t *testing.T) {
	for _, height := range []float32{0, -2, 5.5} {
		area := mustVector(t)(impl.AreaOfThread(mustThread(t)(impl.RingThread(4, 1, height, 1))))
		wantBool(t, "the area of a ring of 4 points", area == vector(0, 0, 2), true)
	}
	whole := manyCorners(6)
	want := wordsOfThreads(thread(1.5, whole.Points[:3]...), thread(1.5, whole.Points[3:]...))
	wantTold(t, "6 points, split", toldSplit(impl.SplitThread(whole, 0, 3)), want)
}

func TestThreadRows(t *testing.T) {
	rows, calls := threadRows(), threadCalls()
	if len(rows) != len(calls) {
		t.Fatalf("%d functions with rows, %d that can be called", len(rows), len(calls))
	}
	for name, call := range calls {
		wantToldRows(t, name, rows[name], call)
	}
}

// withThreads has the functions that require threads, with other arguments that are valid for those with 6 to 29 points.
func withThreads() map[string]func(a impl.Thread) string {
	few := manyCorners(3)
	return map[string]func(a impl.Thread) string{
		"MoveThread":      func(a impl.Thread) string { return toldThread(impl.MoveThread(a, vector(1, -2, 0.5))) },
		"TurnThread":      func(a impl.Thread) string { return toldThread(impl.TurnThread(a, 0.3)) },
		"ScaleThread":     func(a impl.Thread) string { return toldThread(impl.ScaleThread(a, -0.75)) },
		"BackThread":      func(a impl.Thread) string { return toldThread(impl.BackThread(a)) },
		"ShiftThread":     func(a impl.Thread) string { return toldThread(impl.ShiftThread(a, 1)) },
		"LengthOfThread":  func(a impl.Thread) string { return toldNumber(impl.LengthOfThread(a)) },
		"AreaOfThread":    func(a impl.Thread) string { return toldVector(impl.AreaOfThread(a)) },
		"ImpulseOfThread": func(a impl.Thread) string { return toldVector(impl.ImpulseOfThread(a)) },
		"MiddleOfThread":  func(a impl.Thread) string { return toldVector(impl.MiddleOfThread(a)) },
		"RespaceThread":   func(a impl.Thread) string { return toldThread(impl.RespaceThread(a, 5)) },
		"SplitThread":     func(a impl.Thread) string { return toldSplit(impl.SplitThread(a, 0, 3)) },
		"FlowByThreads": func(a impl.Thread) string {
			return toldVector(impl.FlowByThreads([]impl.Thread{a}, vector(9, 9, 9), 0.5))
		},
		"FlowByThreads last": func(a impl.Thread) string {
			return toldVector(impl.FlowByThreads([]impl.Thread{few, a}, vector(9, 9, 9), 0))
		},
		"StepThreads": func(a impl.Thread) string { return toldThreads(impl.StepThreads([]impl.Thread{a}, 0.5, 0.1)) },
		"StepThreads last": func(a impl.Thread) string {
			return toldThreads(impl.StepThreads([]impl.Thread{few, few, few, a}, 0.5, 0.1))
		},
		"RunThreads":         func(a impl.Thread) string { return toldThreads(impl.RunThreads([]impl.Thread{a, few}, 0.5, 0.1, 0)) },
		"NearestOfThreads a": func(a impl.Thread) string { return toldNearest(impl.NearestOfThreads(a, few)) },
		"NearestOfThreads b": func(a impl.Thread) string { return toldNearest(impl.NearestOfThreads(few, a)) },
		"JoinThreads a":      func(a impl.Thread) string { return toldThread(impl.JoinThreads(a, withThreadSpin(few, a.Spin), 0, 0)) },
		"JoinThreads b":      func(a impl.Thread) string { return toldThread(impl.JoinThreads(withThreadSpin(few, a.Spin), a, 0, 0)) },
		"LinkOfThreads a":    func(a impl.Thread) string { return toldLink(impl.LinkOfThreads(a, few)) },
		"LinkOfThreads b":    func(a impl.Thread) string { return toldLink(impl.LinkOfThreads(few, a)) },
	}
}

// oddThreads has threads with too few and too many points, and with odd numbers.
func oddThreads() []impl.Thread {
	list := []impl.Thread{{}, {Points: []impl.Vector{}, Spin: 1}, {Spin: 1}}
	for _, count := range []int{1, 2, impl.MaxThread + 1, 100, 5000} {
		list = append(list, manyCorners(count))
	}
	whole := manyCorners(7)
	for _, odd := range oddTicks() {
		list = append(list, withThreadSpin(whole, odd))
		for _, i := range []int{0, 3, 6} {
			list = append(list, withPoint(whole, i, vector(odd, 1, 1)), withPoint(whole, i, vector(1, odd, 1)), withPoint(whole, i, vector(1, 1, odd)))
		}
	}
	return list
}

// TestOddThreads: no function takes what is no thread.
func TestOddThreads(t *testing.T) {
	for i, odd := range oddThreads() {
		what := fmt.Sprint("thread ", i)
		wantBool(t, what, impl.IsThread(odd), false)
		for place := range 4 {
			list := manyThreads(4)
			list[place] = odd
			wantBool(t, what, impl.AreThreads(list), false)
		}
		for name, call := range withThreads() {
			wantTold(t, name+" of "+what, call(odd), "no")
		}
	}
}

// TestThreadsWithFewAndManyPoints: there are 3 to MaxThread points, and all functions take them.
func TestThreadsWithFewAndManyPoints(t *testing.T) {
	for count := 3; count <= impl.MaxThread; count++ {
		whole := manyCorners(count)
		what := fmt.Sprint(count, " points")
		wantBool(t, what, impl.IsThread(whole), true)
		wantBool(t, what, impl.AreThreads([]impl.Thread{whole}), true)
		for name, call := range withThreads() {
			tooShort := name == "SplitThread" && count < 6
			tooLong := (name == "JoinThreads a" || name == "JoinThreads b") && count > impl.MaxThread-3
			wantBool(t, name+" fails with "+what, call(whole) == "no", tooShort || tooLong)
		}
	}
	for _, p := range []impl.Vector{{}, vector(minusZero, minusZero, minusZero), vector(at(1), -3.4e38, 3.4e38)} {
		wantBool(t, "points at one place", impl.IsThread(thread(0, p, p, p)), true)
		wantBool(t, "the greatest spin", impl.IsThread(thread(at(0xff7fffff), p, p, p)), true)
	}
}

func TestListsOfThreads(t *testing.T) {
	wantBool(t, "nil", impl.AreThreads(nil), true)
	wantBool(t, "none", impl.AreThreads([]impl.Thread{}), true)
	for count := 1; count <= impl.MaxThreads+2; count++ {
		wantBool(t, fmt.Sprint(count, " threads"), impl.AreThreads(manyThreads(count)), count <= impl.MaxThreads)
	}
	wantBool(t, "very many", impl.AreThreads(make([]impl.Thread, 5000)), false)
	one := manyCorners(4)
	wantBool(t, "one thread, several times", impl.AreThreads([]impl.Thread{one, one, one, one}), true)
}

func TestSameThreads(t *testing.T) {
	a := thread(at(0x7f800001), vector(1, minusZero, at(infinity)), vector(at(0xffc00001), 2, 3))
	b := thread(at(noNumber), vector(1, minusZero, at(infinity)), vector(at(0x7fc00002), 2, 3))
	wantBool(t, "not-a-numbers", impl.SameThread(a, b), true)
	wantBool(t, "nil and empty", impl.SameThread(impl.Thread{}, impl.Thread{Points: []impl.Vector{}}), true)
	wantBool(t, "the spins of none", impl.SameThread(impl.Thread{}, impl.Thread{Spin: minusZero}), false)
	wantBool(t, "less points", impl.SameThread(a, thread(a.Spin, b.Points[:1]...)), false)
	wantBool(t, "more points", impl.SameThread(thread(a.Spin, a.Points[:1]...), b), false)
	wantBool(t, "no points", impl.SameThread(thread(a.Spin), b), false)
	wantBool(t, "too many points", impl.SameThread(manyCorners(300), manyCorners(300)), true)
	wantBool(t, "the last of too many points", impl.SameThread(manyCorners(300), withPoint(manyCorners(300), 299, vector(1, 2, 3))), false)
	whole := manyCorners(impl.MaxThread)
	for i, p := range whole.Points {
		for _, by := range []impl.Vector{vector(0.5, 0, 0), vector(0, -1, 0), vector(0, 0, 3)} {
			other := withPoint(whole, i, impl.AddVectors(p, by))
			wantBool(t, "another number", impl.SameThread(whole, other) || impl.SameThread(other, whole), false)
		}
	}
	for _, a := range edgeBits {
		for _, b := range edgeBits {
			same := bitsOf(at(a)) == bitsOf(at(b))
			wantBool(t, "the X", impl.SameThread(thread(1, vector(at(a), 2, 3)), thread(1, vector(at(b), 2, 3))), same)
			wantBool(t, "the Y", impl.SameThread(thread(1, vector(2, at(a), 3)), thread(1, vector(2, at(b), 3))), same)
			wantBool(t, "the Z", impl.SameThread(thread(1, vector(2, 3, at(a))), thread(1, vector(2, 3, at(b)))), same)
			wantBool(t, "the spin", impl.SameThread(thread(at(a), vector(2, 3, 4)), thread(at(b), vector(2, 3, 4))), same)
		}
	}
}

// oddCounts are less than 3, or more than MaxThread.
func oddCounts() []int64 {
	return []int64{2, 1, 0, -1, -4, impl.MaxThread + 1, math.MaxInt64, math.MinInt64, 1<<32 + 4}
}

// roundThread tells a thread around the axis of Z as the text does, with the heights of all points.
func roundThread(radius, spin float32, heights []float32) impl.Thread {
	round := impl.Thread{Spin: spin}
	for k, height := range heights {
		q := float32(k) / float32(len(heights))
		x, y := float32(radius*impl.SineTurns(q+0.25)), float32(radius*impl.SineTurns(q))
		round.Points = append(round.Points, vector(x, y, height))
	}
	return round
}

func TestRings(t *testing.T) {
	for count := int64(3); count <= impl.MaxThread; count++ {
		for _, height := range []float32{0, minusZero, -2.5, 3e38} {
			want := roundThread(1.75, -3, slices.Repeat([]float32{height}, int(count)))
			wantThread(t, fmt.Sprint(count, " points, ", height, " high"), want)(impl.RingThread(count, 1.75, height, -3))
		}
	}
	for _, count := range oddCounts() {
		wantNoThread(t, fmt.Sprint(count, " points"))(impl.RingThread(count, 1, 0, 1))
		wantNoThread(t, fmt.Sprint(count, " points with waves"))(impl.WaveThread(count, 1, 1, 1, 1))
	}
	for _, odd := range oddLengths() {
		wantNoThread(t, "an odd radius")(impl.RingThread(4, odd, 0, 1))
		wantNoThread(t, "an odd radius with waves")(impl.WaveThread(4, 1, odd, 1, 1))
	}
	for _, odd := range oddTicks() {
		wantNoThread(t, "an odd height")(impl.RingThread(4, 1, odd, 1))
		wantNoThread(t, "an odd spin")(impl.RingThread(4, 1, 0, odd))
		wantNoThread(t, "an odd size")(impl.WaveThread(4, 1, 1, odd, 1))
		wantNoThread(t, "an odd size without waves")(impl.WaveThread(4, 0, 1, odd, 1))
		wantNoThread(t, "an odd spin with waves")(impl.WaveThread(4, 1, 1, 1, odd))
	}
	wantBool(t, "the least radius", impl.IsThread(mustThread(t)(impl.RingThread(4, at(1), 0, 0))), true)
	wantBool(t, "the greatest radius", impl.IsThread(mustThread(t)(impl.RingThread(32, at(0x7f7fffff), 3e38, 3e38))), true)
}

func TestWaves(t *testing.T) {
	for count := int64(3); count <= impl.MaxThread; count++ {
		for waves := range int64(13) {
			for _, size := range []float32{0.5, -7, 0, 3e38} {
				var heights []float32
				for k := range count {
					// The waves come round, so that a point is as high as one in the first wave.
					first := k * waves
					for first >= count {
						first -= count
					}
					heights = append(heights, float32(size*impl.SineTurns(float32(first)/float32(count))))
				}
				want := roundThread(0.75, 2, heights)
				wantThread(t, fmt.Sprint(count, " points, ", waves, " waves, ", size), want)(impl.WaveThread(count, waves, 0.75, size, 2))
			}
		}
	}
	for _, waves := range []int64{-1, 13, math.MaxInt64, math.MinInt64, 1<<32 + 1} {
		wantNoThread(t, fmt.Sprint(waves, " waves"))(impl.WaveThread(4, waves, 1, 1, 1))
	}
	flat := mustThread(t)(impl.RingThread(8, 2, 0, 1))
	wantThread(t, "no waves", flat)(impl.WaveThread(8, 0, 2, 5, 1))
	wantThread(t, "waves that all come round", flat)(impl.WaveThread(8, 8, 2, 5, 1))
	wantThread(t, "more of them", mustThread(t)(impl.WaveThread(8, 3, 2, 5, 1)))(impl.WaveThread(8, 11, 2, 5, 1))
}

func TestMovedThreads(t *testing.T) {
	a := thread(7, vector(1, 2, 3), vector(minusZero, 0, -4), vector(0.1, 1e-3, 1e8))
	want := thread(7, vector(1.5, 1, 3), vector(0.5, -1, -4), vector(float32(0.1)+0.5, float32(1e-3)-1, 1e8))
	wantThread(t, "moved", want)(impl.MoveThread(a, vector(0.5, -1, 0)))
	wantThread(t, "moved by -0", a)(impl.MoveThread(a, vector(minusZero, minusZero, minusZero)))
	wantThread(t, "moved by +0", withPoint(a, 1, vector(0, 0, -4)))(impl.MoveThread(a, impl.Vector{}))
	far := thread(0, impl.Vector{}, vector(3e38, -3e38, 3e38), impl.Vector{})
	for _, by := range []impl.Vector{vector(1e38, 0, 0), vector(0, -1e38, 0), vector(0, 0, 1e38)} {
		wantNoThread(t, "moved too far")(impl.MoveThread(far, by))
		wantBool(t, "moved back", impl.IsThread(mustThread(t)(impl.MoveThread(far, impl.ScaleVector(by, -1)))), true)
	}
	for _, odd := range oddTicks() {
		wantNoThread(t, "an odd X")(impl.MoveThread(a, vector(odd, 0, 0)))
		wantNoThread(t, "an odd Y")(impl.MoveThread(a, vector(0, odd, 0)))
		wantNoThread(t, "an odd Z")(impl.MoveThread(a, vector(0, 0, odd)))
	}
}

func TestTurnedThreads(t *testing.T) {
	a := thread(-2, vector(1, 2, 3), vector(-4, 0, minusZero), vector(0, 0.25, 1e8))
	wantThread(t, "no turn", a)(impl.TurnThread(a, 0))
	wantThread(t, "a turn", a)(impl.TurnThread(a, 1))
	wantThread(t, "a quarter", thread(-2, vector(-2, 1, 3), vector(0, -4, minusZero), vector(-0.25, 0, 1e8)))(impl.TurnThread(a, 0.25))
	for _, turns := range []float32{0.1, -0.3, 0.5, 0.75, 17.2, 1e7, 3e38} {
		c, s := impl.SineTurns(turns+0.25), impl.SineTurns(turns)
		want := impl.Thread{Spin: -2}
		for _, p := range a.Points {
			want.Points = append(want.Points, vector(float32(c*p.X)-float32(s*p.Y), float32(s*p.X)+float32(c*p.Y), p.Z))
		}
		wantThread(t, fmt.Sprint(turns, " turns"), want)(impl.TurnThread(a, turns))
	}
	wantNoThread(t, "turned too far")(impl.TurnThread(thread(1, impl.Vector{}, impl.Vector{}, vector(3e38, -3e38, 0)), 0.125))
	for _, odd := range oddTicks() {
		wantNoThread(t, "odd turns")(impl.TurnThread(a, odd))
		wantNoThread(t, "odd turns on the axis")(impl.TurnThread(thread(0, impl.Vector{}, impl.Vector{}, impl.Vector{}), odd))
	}
}

func TestScaledThreads(t *testing.T) {
	a := thread(-2, vector(1, 2, 3), vector(-4, 0, minusZero), vector(0.1, 0.25, 1e8))
	wantThread(t, "by -2", thread(-2, vector(-2, -4, -6), vector(8, minusZero, 0), vector(float32(0.1)*-2, -0.5, -2e8)))(impl.ScaleThread(a, -2))
	wantThread(t, "by 0", thread(-2, impl.Vector{}, vector(minusZero, 0, minusZero), impl.Vector{}))(impl.ScaleThread(a, 0))
	wantThread(t, "by 1", a)(impl.ScaleThread(a, 1))
	wantNoThread(t, "too large")(impl.ScaleThread(a, 1e31))
	wantNoThread(t, "too large, turned")(impl.ScaleThread(a, -1e31))
	for _, odd := range oddTicks() {
		wantNoThread(t, "an odd factor")(impl.ScaleThread(a, odd))
		wantNoThread(t, "an odd factor of zeros")(impl.ScaleThread(thread(0, impl.Vector{}, impl.Vector{}, impl.Vector{}), odd))
	}
}

func TestThreadsBackAndShifted(t *testing.T) {
	for count := 3; count <= impl.MaxThread; count++ {
		a := manyCorners(count)
		back := impl.Thread{Spin: a.Spin}
		for i := range count {
			back.Points = append(back.Points, a.Points[count-1-i])
		}
		wantThread(t, fmt.Sprint(count, " points back"), back)(impl.BackThread(a))
		for by := range count {
			shifted := thread(a.Spin, append(append([]impl.Vector{}, a.Points[by:]...), a.Points[:by]...)...)
			wantThread(t, fmt.Sprint(count, " points, shifted by ", by), shifted)(impl.ShiftThread(a, int64(by)))
		}
		for _, by := range oddIndices(count) {
			wantNoThread(t, fmt.Sprint(count, " points, shifted by ", by))(impl.ShiftThread(a, by))
		}
	}
	zeros := thread(minusZero, vector(minusZero, 0, 1), vector(0, minusZero, 1), vector(0, 0, minusZero))
	wantThread(t, "zeros back", thread(minusZero, zeros.Points[2], zeros.Points[1], zeros.Points[0]))(impl.BackThread(zeros))
	wantThread(t, "zeros, not shifted", zeros)(impl.ShiftThread(zeros, 0))
}

func TestLengths(t *testing.T) {
	square := thread(3, impl.Vector{}, vector(2, 0, 0), vector(2, 2, 0), vector(0, 2, 0))
	wantTold(t, "a square", toldNumber(impl.LengthOfThread(square)), wordsOf([]float32{8}))
	// The last segment goes to the first point.
	open := thread(3, impl.Vector{}, vector(3, 0, 0), vector(3, 4, 0), vector(3, 4, 12))
	wantTold(t, "the way back", toldNumber(impl.LengthOfThread(open)), wordsOf([]float32{3 + 4 + 12 + 13}))
	for _, p := range []impl.Vector{{}, vector(minusZero, 1, 3e38)} {
		wantTold(t, "one place", toldNumber(impl.LengthOfThread(thread(1, p, p, p))), wordsOf([]float32{0}))
	}
	wantTold(t, "segments too long", toldNumber(impl.LengthOfThread(thread(1, impl.Vector{}, vector(2e19, 0, 0), vector(0, 1, 0)))), "no")
	wantTold(t, "points too far apart", toldNumber(impl.LengthOfThread(thread(1, vector(3e38, 0, 0), vector(-3e38, 0, 0), impl.Vector{}))), "no")
	wantTold(t, "segments too short", toldNumber(impl.LengthOfThread(thread(1, impl.Vector{}, vector(1e-23, 0, 0), vector(0, 1e-23, 0)))), wordsOf([]float32{0}))
	// From right to left, the two long segments come first, and the short ones are lost.
	uneven := thread(1, impl.Vector{}, vector(0, 5, 0), vector(0, 5, 5), vector(0, 5, 10), vector(1e8, 5, 10))
	wantTold(t, "in order", toldNumber(impl.LengthOfThread(uneven)), wordsOf([]float32{200000016}))
}

func TestAreasAndImpulses(t *testing.T) {
	square := thread(3, vector(0, 0, 5), vector(2, 0, 5), vector(2, 2, 5), vector(0, 2, 5))
	wantToldVector(t, "a square", vector(0, 0, 4))(impl.AreaOfThread(square))
	wantToldVector(t, "its impulse", vector(0, 0, 12))(impl.ImpulseOfThread(square))
	across := thread(-0.5, vector(1, 0, 0), vector(0, 1, 0), vector(0, 0, 1))
	wantToldVector(t, "a triangle", vector(0.5, 0.5, 0.5))(impl.AreaOfThread(across))
	wantToldVector(t, "its impulse", vector(-0.25, -0.25, -0.25))(impl.ImpulseOfThread(across))
	wantToldVector(t, "no spin", impl.Vector{})(impl.ImpulseOfThread(withThreadSpin(across, 0)))
	wantToldVector(t, "no spin with a sign", vector(minusZero, minusZero, minusZero))(impl.ImpulseOfThread(withThreadSpin(across, minusZero)))
	p := vector(1, -2, 3)
	wantToldVector(t, "one place", impl.Vector{})(impl.AreaOfThread(thread(1, p, p, p, p)))
	far := thread(0, vector(2e19, 0, 0), vector(0, 2e19, 0), impl.Vector{})
	wantNoVector(t, "an area too large")(impl.AreaOfThread(far))
	wantNoVector(t, "the impulse of an area too large")(impl.ImpulseOfThread(far))
	// The sum is halved in the end: it is too large before.
	wantNoVector(t, "a sum too large")(impl.AreaOfThread(thread(0, vector(1.5e19, 0, 0), vector(0, 1.5e19, 0), vector(-1.5e19, 0, 0))))
	wantNoVector(t, "an impulse too large")(impl.ImpulseOfThread(withThreadSpin(square, 1e38)))
	wantToldVector(t, "a large impulse", vector(0, 0, 2e38))(impl.ImpulseOfThread(withThreadSpin(square, 5e37)))
}

func TestMiddles(t *testing.T) {
	wantToldVector(t, "a square", vector(1, 1, 5))(impl.MiddleOfThread(thread(3, vector(0, 0, 5), vector(2, 0, 5), vector(2, 2, 5), vector(0, 2, 5))))
	wantToldVector(t, "zeros", impl.Vector{})(impl.MiddleOfThread(thread(3, vector(minusZero, 0, 0), vector(minusZero, 0, 0), vector(minusZero, 0, 0))))
	// The sum is multiplied by the rounded quotient of 1 and 3, and not divided by 3.
	third := float32(1) / 3
	sum := float32(1) + 2 + 10
	wantToldVector(t, "three points", vector(sum*third, -sum*third, 0))(impl.MiddleOfThread(thread(3, vector(1, -1, 4), vector(2, -2, -5), vector(10, -10, 1))))
	large := vector(3e38, 0, 0)
	wantNoVector(t, "a sum too large")(impl.MiddleOfThread(thread(3, large, large, vector(-3e38, 0, 0))))
	wantToldVector(t, "a sum that is large first", impl.ScaleVector(large, third))(impl.MiddleOfThread(thread(3, large, vector(-3e38, 0, 0), large)))
	wantToldVector(t, "in order", vector(0.25, 0, 0))(impl.MiddleOfThread(thread(3, vector(1, 0, 0), vector(1e8, 0, 0), vector(-1e8, 0, 0), vector(1, 0, 0))))
}
