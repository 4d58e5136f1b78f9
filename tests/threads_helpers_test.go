package tests

import (
	"strings"
	"testing"

	"loop.example/g01266/impl"
)

func vector(x, y, z float32) impl.Vector { return impl.Vector{X: x, Y: y, Z: z} }

// thread makes a thread of its spin and its points.
func thread(spin float32, points ...impl.Vector) impl.Thread {
	return impl.Thread{Points: points, Spin: spin}
}

// threadOf makes a thread of its spin and the numbers of its points.
func threadOf(in []float32) impl.Thread {
	t := impl.Thread{Spin: in[0]}
	for i := 1; i < len(in); i += 3 {
		t.Points = append(t.Points, vectorOf(in, i))
	}
	return t
}

// countedThread makes a thread of the number of its points, and what threadOf takes, and returns the numbers behind them.
func countedThread(in []float32) (impl.Thread, []float32) {
	end := 2 + 3*int(in[0])
	return threadOf(in[1:end]), in[end:]
}

// threadsOf makes a list of threads as in countedThread.
func threadsOf(in []float32) []impl.Thread {
	var list []impl.Thread
	for len(in) > 0 {
		t, more := countedThread(in)
		list, in = append(list, t), more
	}
	return list
}

// manyCorners makes a thread, valid or not, of which few points are near to one another.
func manyCorners(count int) impl.Thread {
	t := impl.Thread{Spin: 1.5}
	for i := range count {
		t.Points = append(t.Points, vector(float32(i)*0.5-3, float32(i*i%7)*0.25, float32(i*i*i%5)-1.5))
	}
	return t
}

func manyThreads(count int) []impl.Thread {
	var list []impl.Thread
	for i := range count {
		t := manyCorners(i + 3)
		for k := range t.Points {
			t.Points[k].Z += 4 * float32(i)
		}
		list = append(list, t)
	}
	return list
}

// withPoint returns a thread with another point.
func withPoint(t impl.Thread, i int, p impl.Vector) impl.Thread {
	t.Points = append([]impl.Vector{}, t.Points...)
	t.Points[i] = p
	return t
}

func withThreadSpin(t impl.Thread, spin float32) impl.Thread {
	t.Spin = spin
	return t
}

func wordsOfThread(t impl.Thread) string {
	all := []float32{t.Spin}
	for _, p := range t.Points {
		all = append(all, numbers(p)...)
	}
	return wordsOf(all)
}

func wordsOfThreads(list ...impl.Thread) string {
	var words []string
	for _, t := range list {
		words = append(words, wordsOf([]float32{float32(len(t.Points))}), wordsOfThread(t))
	}
	return strings.Join(words, " ")
}

// The functions toldX tell what functions of chapter 6 return, with no for a failure.

func toldVector(v impl.Vector, ok bool) string { return told(wordsOf(numbers(v)), ok) }

func toldThread(t impl.Thread, ok bool) string { return told(wordsOfThread(t), ok) }

func toldThreads(list []impl.Thread, ok bool) string { return told(wordsOfThreads(list...), ok) }

func toldSplit(first, second impl.Thread, ok bool) string {
	return told(wordsOfThreads(first, second), ok)
}

// toldLink tells the integer as a number, which it is exactly.
func toldLink(link float32, whole int64, ok bool) string {
	return told(wordsOf([]float32{link, float32(whole)}), ok)
}

func wantToldVector(t *testing.T, what string, want impl.Vector) func(got impl.Vector, ok bool) {
	return func(got impl.Vector, ok bool) {
		t.Helper()
		wantTold(t, what, toldVector(got, ok), wordsOf(numbers(want)))
	}
}

func wantNoVector(t *testing.T, what string) func(got impl.Vector, ok bool) {
	return func(got impl.Vector, ok bool) {
		t.Helper()
		wantTold(t, what, toldVector(got, ok), "no")
	}
}

func wantThread(t *testing.T, what string, want impl.Thread) func(got impl.Thread, ok bool) {
	return func(got impl.Thread, ok bool) {
		t.Helper()
		wantTold(t, what, toldThread(got, ok), wordsOfThread(want))
	}
}

func wantNoThread(t *testing.T, what string) func(got impl.Thread, ok bool) {
	return func(got impl.Thread, ok bool) {
		t.Helper()
		wantTold(t, what, toldThread(got, ok), "no")
	}
}

func wantThreads(t *testing.T, what string, want ...impl.Thread) func(got []impl.Thread, ok bool) {
	return func(got []impl.Thread, ok bool) {
		t.Helper()
		wantTold(t, what, toldThreads(got, ok), wordsOfThreads(want...))
	}
}

func wantNoThreads(t *testing.T, what string) func(got []impl.Thread, ok bool) {
	return func(got []impl.Thread, ok bool) {
		t.Helper()
		wantTold(t, what, toldThreads(got, ok), "no")
	}
}

func mustVector(t *testing.T) func(impl.Vector, bool) impl.Vector { return must[impl.Vector](t) }

func mustThread(t *testing.T) func(impl.Thread, bool) impl.Thread { return must[impl.Thread](t) }

func mustThreads(t *testing.T) func([]impl.Thread, bool) []impl.Thread {
	return must[[]impl.Thread](t)
}

// threadCalls has all functions of chapter 6.
func threadCalls() map[string]func(in []float32) string {
	calls := map[string]func(in []float32) string{
		"IsThread":   func(in []float32) string { return toldBool(impl.IsThread(threadOf(in))) },
		"AreThreads": func(in []float32) string { return toldBool(impl.AreThreads(threadsOf(in))) },
		"RingThread": func(in []float32) string {
			return toldThread(impl.RingThread(int64(in[0]), in[1], in[2], in[3]))
		},
		"WaveThread": func(in []float32) string {
			return toldThread(impl.WaveThread(int64(in[0]), int64(in[1]), in[2], in[3], in[4]))
		},
		"MoveThread":      func(in []float32) string { return toldThread(impl.MoveThread(threadOf(in[3:]), vectorOf(in, 0))) },
		"TurnThread":      func(in []float32) string { return toldThread(impl.TurnThread(threadOf(in[1:]), in[0])) },
		"ScaleThread":     func(in []float32) string { return toldThread(impl.ScaleThread(threadOf(in[1:]), in[0])) },
		"BackThread":      func(in []float32) string { return toldThread(impl.BackThread(threadOf(in))) },
		"ShiftThread":     func(in []float32) string { return toldThread(impl.ShiftThread(threadOf(in[1:]), int64(in[0]))) },
		"LengthOfThread":  func(in []float32) string { return toldNumber(impl.LengthOfThread(threadOf(in))) },
		"AreaOfThread":    func(in []float32) string { return toldVector(impl.AreaOfThread(threadOf(in))) },
		"ImpulseOfThread": func(in []float32) string { return toldVector(impl.ImpulseOfThread(threadOf(in))) },
		"MiddleOfThread":  func(in []float32) string { return toldVector(impl.MiddleOfThread(threadOf(in))) },
		"FlowByThreads": func(in []float32) string {
			return toldVector(impl.FlowByThreads(threadsOf(in[4:]), vectorOf(in, 0), in[3]))
		},
		"StepThreads": func(in []float32) string { return toldThreads(impl.StepThreads(threadsOf(in[2:]), in[0], in[1])) },
		"RunThreads": func(in []float32) string {
			return toldThreads(impl.RunThreads(threadsOf(in[3:]), in[0], in[1], int64(in[2])))
		},
		"RingSpeed":     func(in []float32) string { return toldNumber(impl.RingSpeed(in[0], in[1], in[2])) },
		"RespaceThread": func(in []float32) string { return toldThread(impl.RespaceThread(threadOf(in[1:]), int64(in[0]))) },
		"SplitThread": func(in []float32) string {
			return toldSplit(impl.SplitThread(threadOf(in[2:]), int64(in[0]), int64(in[1])))
		},
		"JoinThreads": func(in []float32) string {
			pair := threadsOf(in[2:])
			return toldThread(impl.JoinThreads(pair[0], pair[1], int64(in[0]), int64(in[1])))
		},
	}
	for name, call := range pairCalls() {
		calls[name] = func(in []float32) string {
			pair := threadsOf(in)
			return call(pair[0], pair[1])
		}
	}
	return calls
}

// pairCalls has the functions of just two threads.
func pairCalls() map[string]func(a, b impl.Thread) string {
	return map[string]func(a, b impl.Thread) string{
		"SameThread":       func(a, b impl.Thread) string { return toldBool(impl.SameThread(a, b)) },
		"NearestOfThreads": func(a, b impl.Thread) string { return toldNearest(impl.NearestOfThreads(a, b)) },
		"LinkOfThreads":    func(a, b impl.Thread) string { return toldLink(impl.LinkOfThreads(a, b)) },
	}
}
