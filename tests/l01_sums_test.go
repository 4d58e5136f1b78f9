package tests

import (
	"testing"

	"loop.example/g01266/impl"
)

// one returns a result in a list, and fails the test where the function has failed.
func one(t *testing.T) func(x float32, ok bool) []float32 {
	return func(x float32, ok bool) []float32 {
		t.Helper()
		wantBool(t, "a sum succeeds", ok, true)
		return []float32{x}
	}
}

func two(t *testing.T) func(x complex64, ok bool) []float32 {
	return func(x complex64, ok bool) []float32 {
		t.Helper()
		wantBool(t, "a sum succeeds", ok, true)
		return parts(x)
	}
}

func TestSumRows(t *testing.T) {
	wantRows(t, "SumNumbers", sumRows, func(in []float32) []float32 { return one(t)(impl.SumNumbers(in)) })
	wantRows(t, "DotNumbers", dotRows, func(in []float32) []float32 {
		return one(t)(impl.DotNumbers(in[:len(in)/2], in[len(in)/2:]))
	})
	wantRows(t, "SumComplex", sumComplexRows, func(in []float32) []float32 { return two(t)(impl.SumComplex(complexList(in))) })
	wantRows(t, "DotComplex", dotComplexRows, func(in []float32) []float32 {
		return two(t)(impl.DotComplex(complexList(in[:len(in)/2]), complexList(in[len(in)/2:])))
	})
	wantRows(t, "DotConjugate", dotConjugateRows, func(in []float32) []float32 {
		return two(t)(impl.DotConjugate(complexList(in[:len(in)/2]), complexList(in[len(in)/2:])))
	})
	wantRows(t, "PowersOf", powersRows, func(in []float32) []float32 { return one(t)(impl.PowersOf(complexList(in))) })
}

// TestSumsInOrder: sums are made from left to right, in 32-bit numbers, but those of powers in 64-bit ones.
func TestSumsInOrder(t *testing.T) {
	big := float32(1 << 24)
	wantNumber(t, "SumNumbers", one(t)(impl.SumNumbers([]float32{big, 1, 1, 1, -big}))[0], 0)
	wantNumber(t, "SumNumbers back", one(t)(impl.SumNumbers([]float32{1, 1, 1, big, -big}))[0], 0x40800000)
	wantNumber(t, "DotNumbers", one(t)(impl.DotNumbers([]float32{big, 1, 1, -1}, []float32{1, 1, 1, big}))[0], 0)
	// The square of 1 + 1 / 4096 is rounded to 24 bits before something is taken away.
	near := 1 + float32(1)/4096
	wantNumber(t, "a rounded product", one(t)(impl.DotNumbers([]float32{-1, near}, []float32{1, near}))[0], 0x3a000000)
	wantNumber(t, "PowersOf", one(t)(impl.PowersOf([]complex64{4096, 1, 1, complex(0, 1)}))[0], 0x4b800002)
	wantNumber(t, "PowersOf huge numbers", one(t)(impl.PowersOf([]complex64{complex(1e30, 1)}))[0], infinity)
	got := two(t)(impl.SumComplex([]complex64{complex(big, 1), complex(1, 1), complex(1, big), complex(-big, -big)}))
	if want := "00000000 40000000"; wordsOf(got) != want {
		t.Errorf("SumComplex: got %s, want %s", wordsOf(got), want)
	}
}

// TestSumsOfZeros: sums begin with +0, so that no sum of zeros has a sign.
func TestSumsOfZeros(t *testing.T) {
	zero := complex(minusZero, minusZero)
	wantNumber(t, "SumNumbers", one(t)(impl.SumNumbers([]float32{minusZero}))[0], 0)
	wantNumber(t, "DotNumbers", one(t)(impl.DotNumbers([]float32{minusZero}, []float32{1}))[0], 0)
	for _, got := range [][]float32{
		two(t)(impl.SumComplex([]complex64{zero, zero})),
		two(t)(impl.DotComplex([]complex64{zero}, []complex64{complex(1, minusZero)})),
		two(t)(impl.DotConjugate([]complex64{zero}, []complex64{complex(1, 1)})),
		two(t)(impl.SumComplex(nil)), two(t)(impl.SumComplex([]complex64{})),
		two(t)(impl.DotComplex(nil, []complex64{})), two(t)(impl.DotConjugate([]complex64{}, nil)),
		one(t)(impl.SumNumbers(nil)), one(t)(impl.SumNumbers([]float32{})), one(t)(impl.DotNumbers(nil, nil)),
		one(t)(impl.DotNumbers([]float32{}, nil)), one(t)(impl.PowersOf(nil)), one(t)(impl.PowersOf([]complex64{zero})),
	} {
		for _, x := range got {
			wantNumber(t, "a sum of zeros", x, 0)
		}
	}
}

func TestSumsOfOddNumbers(t *testing.T) {
	inf, nan := at(infinity), at(0x7f800001)
	wantNumber(t, "SumNumbers", one(t)(impl.SumNumbers([]float32{1, nan, 2}))[0], noNumber)
	wantNumber(t, "SumNumbers", one(t)(impl.SumNumbers([]float32{1, inf, 2}))[0], infinity)
	wantNumber(t, "SumNumbers", one(t)(impl.SumNumbers([]float32{inf, -inf}))[0], noNumber)
	wantNumber(t, "SumNumbers", one(t)(impl.SumNumbers([]float32{at(0x7f7fffff), at(0x7f7fffff), at(0xff7fffff)}))[0], infinity)
	wantNumber(t, "SumNumbers", one(t)(impl.SumNumbers([]float32{at(1), at(1), at(0x007fffff)}))[0], 0x00800001)
	wantNumber(t, "DotNumbers", one(t)(impl.DotNumbers([]float32{inf}, []float32{0}))[0], noNumber)
	wantNumber(t, "DotNumbers", one(t)(impl.DotNumbers([]float32{1e30, 1e30}, []float32{1e30, -1e30}))[0], noNumber)
	wantNumber(t, "PowersOf", one(t)(impl.PowersOf([]complex64{complex(0, -inf), 1}))[0], infinity)
	wantNumber(t, "PowersOf", one(t)(impl.PowersOf([]complex64{1, complex(nan, 0)}))[0], noNumber)
	got := two(t)(impl.SumComplex([]complex64{complex(inf, 1), complex(1, nan)}))
	if want := "7f800000 7fc00000"; wordsOf(got) != want {
		t.Errorf("SumComplex: got %s, want %s", wordsOf(got), want)
	}
}

// TestSumLimits: lists have at most MaxNumbers numbers, and two lists the same length.
func TestSumLimits(t *testing.T) {
	ones, units := make([]float32, 300), make([]complex64, 300)
	for i := range ones {
		ones[i], units[i] = 1, complex(0, 1)
	}
	for _, n := range []int{0, 1, 64, 255, 256} {
		x, y := ones[:n], units[:n]
		bits := bitsOf(float32(n))
		wantNumber(t, "SumNumbers", one(t)(impl.SumNumbers(x))[0], bits)
		wantNumber(t, "DotNumbers", one(t)(impl.DotNumbers(x, x))[0], bits)
		wantNumber(t, "PowersOf", one(t)(impl.PowersOf(y))[0], bits)
		wantNumber(t, "SumComplex", two(t)(impl.SumComplex(y))[1], bits)
		wantNumber(t, "DotComplex", two(t)(impl.DotComplex(y, y))[0], bitsOf(0-float32(n)))
		wantNumber(t, "DotConjugate", two(t)(impl.DotConjugate(y, y))[0], bits)
	}
	for _, n := range []int{257, 300} {
		x, y := ones[:n], units[:n]
		wantNoSums(t, x, x, y, y)
		if got, ok := impl.SumNumbers(x); got != 0 || ok {
			t.Errorf("SumNumbers of %d: got %v %v", n, got, ok)
		}
		if got, ok := impl.SumComplex(y); got != 0 || ok {
			t.Errorf("SumComplex of %d: got %v %v", n, got, ok)
		}
		if got, ok := impl.PowersOf(y); got != 0 || ok {
			t.Errorf("PowersOf %d: got %v %v", n, got, ok)
		}
	}
	wantNoSums(t, ones[:1], nil, units[:1], nil)
	wantNoSums(t, nil, ones[:1], nil, units[:1])
	wantNoSums(t, ones[:3], ones[:2], units[:3], units[:2])
	wantNoSums(t, ones[:2], ones[:3], units[:2], units[:3])
	wantNoSums(t, ones[:256], ones[:257], units[:256], units[:257])
	wantNoSums(t, ones[:257], ones[:256], units[:257], units[:256])
}

func wantNoSums(t *testing.T, a, b []float32, c, d []complex64) {
	t.Helper()
	if got, ok := impl.DotNumbers(a, b); got != 0 || ok {
		t.Errorf("DotNumbers of %d and %d: got %v %v", len(a), len(b), got, ok)
	}
	if got, ok := impl.DotComplex(c, d); got != 0 || ok {
		t.Errorf("DotComplex of %d and %d: got %v %v", len(c), len(d), got, ok)
	}
	if got, ok := impl.DotConjugate(c, d); got != 0 || ok {
		t.Errorf("DotConjugate of %d and %d: got %v %v", len(c), len(d), got, ok)
	}
}
