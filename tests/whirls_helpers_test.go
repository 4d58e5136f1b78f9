package tests

import (
	"math/cmplx"
	"strings"
	"testing"

	"loop.example/g01266/impl"
)

// turn is a full turn as a 32-bit number, by which flows are divided.
const turn = 6.2831855

func whirl(x, y, spin float32) impl.Whirl { return impl.Whirl{At: complex(x, y), Spin: spin} }

func whirlsOf(in []float32) []impl.Whirl {
	var list []impl.Whirl
	for i := 0; i < len(in); i += 3 {
		list = append(list, whirl(in[i], in[i+1], in[i+2]))
	}
	return list
}

func manyWhirls(count int) []impl.Whirl {
	var list []impl.Whirl
	for i := range count {
		list = append(list, whirl(float32(i%7)-2.5, float32(i/7)+0.25, 0.5-float32(i%3)))
	}
	return list
}

// oddLists has lists that are none of whirls: with too many, and with numbers that are not finite.
func oddLists() [][]impl.Whirl {
	bad := [][]impl.Whirl{manyWhirls(impl.MaxWhirls + 1), make([]impl.Whirl, 5000)}
	for _, odd := range oddTicks() {
		for _, i := range []int{0, 2, 7} {
			for _, w := range []impl.Whirl{whirl(odd, 1, 1), whirl(1, odd, 1), whirl(1, 1, odd)} {
				list := manyWhirls(8)
				list[i] = w
				bad = append(bad, list)
			}
		}
	}
	return bad
}

func wordsOfWhirls(list []impl.Whirl) string {
	var all []float32
	for _, w := range list {
		all = append(all, real(w.At), imag(w.At), w.Spin)
	}
	return wordsOf(all)
}

// The functions toldX tell what functions of chapter 2 return, with no for a failure.

func told(words string, ok bool) string {
	switch {
	case ok:
		return words
	case strings.Trim(words, "0 ") != "":
		return "no, with " + words
	}
	return "no"
}

func toldNumber(x float32, ok bool) string { return told(wordsOf([]float32{x}), ok) }

func toldComplex(x complex64, ok bool) string { return told(wordsOf(parts(x)), ok) }

func toldWhirls(list []impl.Whirl, ok bool) string { return told(wordsOfWhirls(list), ok) }

func toldFlows(list []complex64, ok bool) string {
	var all []float32
	for _, x := range list {
		all = append(all, parts(x)...)
	}
	return told(wordsOf(all), ok)
}

// toldNearest tells the indices as numbers.
func toldNearest(i, k int64, distance float32, ok bool) string {
	return told(wordsOf([]float32{float32(i), float32(k), distance}), ok)
}

// toldHalved tells the parts as a number in front of the whirls.
func toldHalved(list []impl.Whirl, parts int64, ok bool) string {
	words := wordsOf([]float32{float32(parts)})
	if len(list) > 0 {
		words += " " + wordsOfWhirls(list)
	}
	return told(words, ok)
}

func wantTold(t *testing.T, what, got, want string) {
	t.Helper()
	if got != want {
		t.Errorf("%s: got %s, want %s", what, got, want)
	}
}

func wantWhirls(t *testing.T, what string, want ...impl.Whirl) func(got []impl.Whirl, ok bool) {
	return func(got []impl.Whirl, ok bool) {
		t.Helper()
		wantTold(t, what, toldWhirls(got, ok), wordsOfWhirls(want))
	}
}

func wantNoWhirls(t *testing.T, what string) func(got []impl.Whirl, ok bool) {
	return func(got []impl.Whirl, ok bool) {
		t.Helper()
		wantTold(t, what, toldWhirls(got, ok), "no")
	}
}

// must returns a result, and ends the test where the function has failed.
func must[T any](t *testing.T) func(x T, ok bool) T {
	return func(x T, ok bool) T {
		t.Helper()
		if !ok {
			t.Fatal("a function fails")
		}
		return x
	}
}

func mustWhirls(t *testing.T) func([]impl.Whirl, bool) []impl.Whirl { return must[[]impl.Whirl](t) }

func mustComplex(t *testing.T) func(complex64, bool) complex64 { return must[complex64](t) }

func mustNumber(t *testing.T) func(float32, bool) float32 { return must[float32](t) }

// wantNear checks that both numbers are nearer to one another than most.
func wantNear(t *testing.T, what string, got, want complex64, most float64) {
	t.Helper()
	if gap := cmplx.Abs(complex128(got) - complex128(want)); !(gap <= most) {
		t.Errorf("%s: got %v, want %v, the gap is %v", what, got, want, gap)
	}
}
