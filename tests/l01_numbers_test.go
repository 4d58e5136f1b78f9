package tests

import (
	"math"
	"testing"

	"loop.example/g01266/impl"
)

// TestExamplesOfChapter1 asserts every example at the end of chapter 1.
func TestExamplesOfChapter1(t *testing.T) {
	if got := impl.MulComplex(complex(1, 2), complex(3, -1)); got != complex(5, 5) {
		t.Errorf("the product of 1 + 2 i and 3 - i: %v", got)
	}
	if got := impl.QuotientOf(complex(0, 4), 2); got != complex(0, 2) {
		t.Errorf("the quotient of 4 i and 2: %v", got)
	}
	quarter := impl.PhasorOf(0.25)
	if quarter != complex(0, 1) {
		t.Errorf("the phasor of 0.25 turns: %v", quarter)
	}
	if got := impl.AngleOf(quarter); got != 0.25 {
		t.Errorf("its angle: %v", got)
	}
	if got, ok := impl.ComplexText([]complex64{1}); got != "3f80000000000000" || !ok {
		t.Errorf("the text of 1: %q %v", got, ok)
	}
	if got, ok := impl.TenthsOf(1); got != 0 || !ok {
		t.Errorf("the tenths of decibels of 1: %d %v", got, ok)
	}
}

// TestPromise2ToldByBits: numbers and complex numbers are told by their bits.
func TestPromise2ToldByBits(t *testing.T) {
	for i, a := range edgeBits {
		got, ok := impl.FromBits(int64(a))
		if !ok || bitsOf(got) != bitsOf(at(a)) {
			t.Errorf("FromBits %08x: got %08x %v", a, bitsOf(got), ok)
		}
		if got := impl.BitsOf(at(a)); got != int64(bitsOf(at(a))) {
			t.Errorf("BitsOf %08x: got %d", a, got)
		}
		for k, b := range edgeBits {
			same := bitsOf(at(a)) == bitsOf(at(b))
			wantBool(t, "SameNumber", impl.SameNumber(at(a), at(b)), same)
			c, d := at(edgeBits[len(edgeBits)-1-i]), at(edgeBits[len(edgeBits)-1-k])
			both := same && bitsOf(c) == bitsOf(d)
			wantBool(t, "SameComplex", impl.SameComplex(complex(at(a), c), complex(at(b), d)), both)
			wantBool(t, "SameComplex in the real part", impl.SameComplex(complex(at(a), 1), complex(at(b), 1)), same)
			wantBool(t, "SameComplex in the imaginary part", impl.SameComplex(complex(1, at(a)), complex(1, at(b))), same)
		}
	}
	for _, n := range []int64{-1, 4294967296, math.MaxInt64, math.MinInt64, 4294967296 + 0x3f800000} {
		if got, ok := impl.FromBits(n); got != 0 || ok {
			t.Errorf("FromBits %d: got %v %v", n, got, ok)
		}
	}
	for bits := uint32(0); bits < 0xfff00000; bits += 999983 {
		got, ok := impl.FromBits(int64(bits))
		if !ok || bitsOf(got) != bitsOf(at(bits)) || impl.BitsOf(got) != int64(bitsOf(at(bits))) {
			t.Fatalf("bits %08x: got %v %v", bits, got, ok)
		}
	}
}

// TestPromise2SmallProducts: products of small integers are exact.
func TestPromise2SmallProducts(t *testing.T) {
	for a := -9; a <= 9; a++ {
		for b := -9; b <= 9; b++ {
			for c := -9; c <= 9; c++ {
				for d := -9; d <= 9; d++ {
					x, y := complex(float32(a), float32(b)), complex(float32(c), float32(d))
					want := complex(float32(a*c-b*d), float32(a*d+b*c))
					if got := impl.MulComplex(x, y); got != want {
						t.Fatalf("%v times %v: got %v, want %v", x, y, got, want)
					}
					if c == 0 && d == 0 {
						continue
					}
					if got := impl.QuotientOf(want, y); got != x {
						t.Fatalf("%v by %v: got %v, want %v", want, y, got, x)
					}
				}
			}
		}
	}
	for a := -2000; a <= 2000; a += 37 {
		for b := -2000; b <= 2000; b += 41 {
			x := complex(float32(a), float32(b))
			if got := impl.PowerOf(x); got != float32(a*a+b*b) {
				t.Fatalf("the power of %v: got %v", x, got)
			}
			if got := impl.ScaleComplex(x, float32(b)); got != complex(float32(a*b), float32(b*b)) {
				t.Fatalf("%v scaled by %d: got %v", x, b, got)
			}
		}
	}
}

func TestFiniteAndSubnormal(t *testing.T) {
	for _, a := range edgeBits {
		x := at(a)
		finite := a&0x7f800000 != 0x7f800000
		small := a&0x7f800000 == 0 && a&0x007fffff != 0
		wantBool(t, "IsFinite", impl.IsFinite(x), finite)
		wantBool(t, "IsFiniteComplex, real", impl.IsFiniteComplex(complex(x, 1)), finite)
		wantBool(t, "IsFiniteComplex, imaginary", impl.IsFiniteComplex(complex(1, x)), finite)
		wantBool(t, "IsSubnormal", impl.IsSubnormal(x), small)
		want := bitsOf(x)
		if small {
			want = a & signBit
		}
		wantNumber(t, "FlushNumber", impl.FlushNumber(x), want)
	}
}

func TestNarrow(t *testing.T) {
	// Each 64-bit number is a mantissa times a power of 2; the ties are those between two 32-bit numbers.
	rows := []struct {
		long float64
		want uint32
	}{
		{0, 0}, {math.Copysign(0, -1), signBit}, {math.NaN(), noNumber}, {math.Inf(1), infinity}, {math.Inf(-1), signBit + infinity},
		{0.1, 0x3dcccccd}, {-1.0 / 3, 0xbeaaaaab}, {0.5, 0x3f000000},
		{1 + math.Ldexp(1, -24), 0x3f800000}, {1 + math.Ldexp(3, -24), 0x3f800002},
		{1 + math.Ldexp(1, -24) + math.Ldexp(1, -52), 0x3f800001}, {1 + math.Ldexp(3, -24) - math.Ldexp(1, -51), 0x3f800001},
		{math.Ldexp(1, 128) - math.Ldexp(1, 103), infinity}, {math.Ldexp(1, 103) - math.Ldexp(1, 128), signBit + infinity},
		{math.Nextafter(math.Ldexp(1, 128)-math.Ldexp(1, 103), 0), 0x7f7fffff}, {1e300, infinity},
		{math.Ldexp(1, -150), 0}, {-math.Ldexp(1, -150), signBit}, {math.Nextafter(math.Ldexp(1, -150), 1), 1},
		{math.Ldexp(3, -150), 2}, {math.Ldexp(5, -150), 2}, {-math.Ldexp(1, -149), signBit + 1}, {-5e-324, signBit},
		{math.Ldexp(1, -126) - math.Ldexp(1, -150), 0x00800000}, {math.Ldexp(1, -126) - math.Ldexp(3, -151), 0x007fffff},
	}
	for i, row := range rows {
		wantNumber(t, "NarrowNumber", impl.NarrowNumber(row.long), row.want)
		other := rows[len(rows)-1-i]
		wantComplex(t, "NarrowComplex", impl.NarrowComplex(complex(row.long, other.long)), row.want, other.want)
	}
}

func TestComplexRows(t *testing.T) {
	wantRows(t, "MulComplex", productRows, func(in []float32) []float32 {
		return parts(impl.MulComplex(complexOf(in, 0), complexOf(in, 2)))
	})
	wantRows(t, "QuotientOf", quotientRows, func(in []float32) []float32 {
		return parts(impl.QuotientOf(complexOf(in, 0), complexOf(in, 2)))
	})
	wantRows(t, "ScaleComplex", scaleRows, func(in []float32) []float32 {
		return parts(impl.ScaleComplex(complexOf(in, 0), in[2]))
	})
	wantRows(t, "PowerOf", powerRows, func(in []float32) []float32 { return []float32{impl.PowerOf(complexOf(in, 0))} })
	wantRows(t, "LongOf", longRows, func(in []float32) []float32 { return []float32{impl.LongOf(complexOf(in, 0))} })
}

func TestComplexEdges(t *testing.T) {
	inf, nan := at(infinity), at(noNumber)
	huge, tiny := at(0x7f7fffff), at(1)
	wantComplex(t, "a product that cancels", impl.MulComplex(complex(huge, huge), complex(huge, huge)), 0, infinity)
	wantComplex(t, "a product with infinity", impl.MulComplex(complex(inf, 0), complex(1, 0)), infinity, noNumber)
	wantComplex(t, "a product of infinities", impl.MulComplex(complex(inf, inf), complex(1, 2)), noNumber, infinity)
	wantComplex(t, "a product of zeros", impl.MulComplex(complex(minusZero, 0), complex(1, 0)), signBit, 0)
	wantComplex(t, "a product of tiny ones", impl.MulComplex(complex(tiny, 0), complex(0.5, 0.75)), 0, 1)
	wantComplex(t, "1 by 0", impl.QuotientOf(1, 0), noNumber, noNumber)
	wantComplex(t, "0 by 0", impl.QuotientOf(0, 0), noNumber, noNumber)
	wantComplex(t, "infinity by 0", impl.QuotientOf(complex(inf, 1), 0), noNumber, noNumber)
	wantComplex(t, "1 by a tiny one", impl.QuotientOf(1, complex(tiny, 0)), infinity, 0)
	wantComplex(t, "1 by 1", impl.QuotientOf(1, 1), 0x3f800000, 0)
	wantComplex(t, "-1 by 1, with zeros that have signs", impl.QuotientOf(complex(-1, minusZero), complex(1, minusZero)), 0xbf800000, signBit)
	wantComplex(t, "1 by infinity", impl.QuotientOf(1, complex(inf, 0)), noNumber, noNumber)
	wantComplex(t, "huge ones", impl.QuotientOf(complex(huge, huge), complex(huge, huge)), 0x3f800000, 0)
	wantComplex(t, "a scaled not-a-number", impl.ScaleComplex(complex(nan, minusZero), -2), noNumber, 0)
	wantComplex(t, "infinity times 0", impl.ScaleComplex(complex(inf, 3), 0), noNumber, 0)
	for _, a := range edgeBits {
		want := bitsOf(at(a)) ^ signBit
		if at(a) != at(a) {
			want = noNumber
		}
		wantComplex(t, "ConjugateOf", impl.ConjugateOf(complex(minusZero, at(a))), signBit, want)
	}
	wantNumber(t, "the power of a tiny number", impl.PowerOf(complex(tiny, tiny)), 0)
	wantNumber(t, "the length of a tiny number", impl.LongOf(complex(0, -tiny)), 1)
	wantNumber(t, "the power of a huge number", impl.PowerOf(complex(huge, 0)), infinity)
	wantNumber(t, "the length of a huge number", impl.LongOf(complex(0, -huge)), 0x7f7fffff)
	wantNumber(t, "the power of infinity", impl.PowerOf(complex(-inf, 1)), infinity)
	wantNumber(t, "the power of a not-a-number", impl.PowerOf(complex(inf, nan)), noNumber)
	wantNumber(t, "the length of -0", impl.LongOf(complex(minusZero, minusZero)), 0)
}

func TestRoots(t *testing.T) {
	wantRows(t, "RootNumber", rootRows, func(in []float32) []float32 { return []float32{impl.RootNumber(in[0])} })
	for n := range 4000 {
		if got := impl.RootNumber(float32(n * n)); got != float32(n) {
			t.Fatalf("the root of %d: got %v", n*n, got)
		}
	}
	wantNumber(t, "the root of +0", impl.RootNumber(0), 0)
	wantNumber(t, "the root of -0", impl.RootNumber(minusZero), signBit)
	wantNumber(t, "the root of -1", impl.RootNumber(-1), noNumber)
	wantNumber(t, "the root of a tiny negative number", impl.RootNumber(at(signBit+1)), noNumber)
	wantNumber(t, "the root of a not-a-number", impl.RootNumber(at(noNumber)), noNumber)
	wantNumber(t, "the root of infinity", impl.RootNumber(at(infinity)), infinity)
	wantNumber(t, "the root of the negative infinity", impl.RootNumber(at(signBit+infinity)), noNumber)
	wantNumber(t, "the root of the least number", impl.RootNumber(at(1)), 0x1a3504f3)
}
