package tests

import (
	"testing"

	"loop.example/g01266/impl"
)

func wantVector(t *testing.T, what string, got impl.Vector, want string) {
	t.Helper()
	if words := wordsOf(numbers(got)); words != want {
		t.Errorf("%s: got %s, want %s", what, words, want)
	}
}

func TestVectorRows(t *testing.T) {
	wantRows(t, "InnerOf", innerRows, func(in []float32) []float32 {
		return []float32{impl.InnerOf(vectorOf(in, 0), vectorOf(in, 3))}
	})
	wantRows(t, "CrossOf", crossRows, func(in []float32) []float32 {
		return numbers(impl.CrossOf(vectorOf(in, 0), vectorOf(in, 3)))
	})
	wantRows(t, "SizeOfVector", sizeRows, func(in []float32) []float32 {
		return []float32{impl.SizeOfVector(vectorOf(in, 0))}
	})
	wantRows(t, "BetweenVectors", betweenRows, func(in []float32) []float32 {
		return numbers(impl.BetweenVectors(vectorOf(in, 0), vectorOf(in, 3), in[6]))
	})
}

// TestVectorParts: sums, differences and products are those of the parts, rounded to 32-bit numbers.
func TestVectorParts(t *testing.T) {
	for i, a := range edgeBits {
		for k, b := range edgeBits {
			n := len(edgeBits)
			v := impl.Vector{X: at(a), Y: at(edgeBits[(i+5)%n]), Z: at(edgeBits[(i+11)%n])}
			w := impl.Vector{X: at(b), Y: at(edgeBits[(k+3)%n]), Z: at(edgeBits[(k+17)%n])}
			// The sum and the product of two 32-bit numbers, told in 64-bit ones, are rounded rightly by a second rounding.
			by := func(f func(x, y float64) float64) string {
				return wordsOf([]float32{
					float32(f(float64(v.X), float64(w.X))), float32(f(float64(v.Y), float64(w.Y))), float32(f(float64(v.Z), float64(w.Z))),
				})
			}
			wantVector(t, "AddVectors", impl.AddVectors(v, w), by(func(x, y float64) float64 { return x + y }))
			wantVector(t, "LessVectors", impl.LessVectors(v, w), by(func(x, y float64) float64 { return x - y }))
			wantVector(t, "ScaleVector", impl.ScaleVector(v, w.X), by(func(x, _ float64) float64 { return x * float64(w.X) }))
		}
	}
}

func TestVectorEdges(t *testing.T) {
	x, y, z := impl.Vector{X: 1}, impl.Vector{Y: 1}, impl.Vector{Z: 1}
	wantVector(t, "x across y", impl.CrossOf(x, y), "00000000 00000000 3f800000")
	wantVector(t, "y across x", impl.CrossOf(y, x), "00000000 00000000 bf800000")
	wantVector(t, "y across z", impl.CrossOf(y, z), "3f800000 00000000 00000000")
	wantVector(t, "z across x", impl.CrossOf(z, x), "00000000 3f800000 00000000")
	wantVector(t, "a vector across itself", impl.CrossOf(impl.Vector{X: 0.1, Y: -7, Z: 3}, impl.Vector{X: 0.1, Y: -7, Z: 3}), "00000000 00000000 00000000")
	wantVector(t, "huge ones", impl.CrossOf(impl.Vector{Y: 1e30, Z: 1e30}, impl.Vector{Y: 1e30, Z: 1e30}), "7fc00000 00000000 00000000")
	wantNumber(t, "InnerOf in order", impl.InnerOf(impl.Vector{X: 1 << 24, Y: 1, Z: -(1 << 24)}, impl.Vector{X: 1, Y: 1, Z: 1}), 0)
	wantNumber(t, "InnerOf zeros", impl.InnerOf(impl.Vector{X: minusZero, Y: minusZero, Z: minusZero}, impl.Vector{X: 1, Y: 1, Z: 1}), signBit)
	wantNumber(t, "the size of 3, 4", impl.SizeOfVector(impl.Vector{X: 3, Y: 4}), 0x40a00000)
	wantNumber(t, "the size of 2, -3, 6", impl.SizeOfVector(impl.Vector{X: 2, Y: -3, Z: 6}), 0x40e00000)
	wantNumber(t, "a huge size", impl.SizeOfVector(impl.Vector{X: 1e30}), infinity)
	wantNumber(t, "a tiny size", impl.SizeOfVector(impl.Vector{Y: at(1), Z: 1e-30}), 0)
	wantNumber(t, "the size of a not-a-number", impl.SizeOfVector(impl.Vector{Z: at(0xffc00000)}), noNumber)
	wantVector(t, "between, at 0", impl.BetweenVectors(impl.Vector{X: 1, Y: minusZero, Z: 3}, impl.Vector{X: 5, Y: 6, Z: 7}, 0), "3f800000 00000000 40400000")
	wantVector(t, "between, at 1", impl.BetweenVectors(impl.Vector{X: 1e10}, impl.Vector{X: 1, Y: -2, Z: 3}, 1), "00000000 c0000000 40400000")
	wantVector(t, "between, outside", impl.BetweenVectors(impl.Vector{X: 1}, impl.Vector{X: 3, Y: 1}, -2), "c0400000 c0000000 00000000")
}

// TestSameVectors: all three numbers must be the same.
func TestSameVectors(t *testing.T) {
	v := impl.Vector{X: minusZero, Y: at(0x7f800001), Z: 3}
	wantBool(t, "not-a-numbers", impl.SameVector(v, impl.Vector{X: minusZero, Y: at(0xffc00000), Z: 3}), true)
	wantBool(t, "zeros", impl.SameVector(v, impl.Vector{X: 0, Y: at(noNumber), Z: 3}), false)
	wantBool(t, "the second numbers", impl.SameVector(v, impl.Vector{X: minusZero, Y: 0, Z: 3}), false)
	wantBool(t, "the third numbers", impl.SameVector(v, impl.Vector{X: minusZero, Y: at(noNumber), Z: -3}), false)
	wantBool(t, "zero vectors", impl.SameVector(impl.Vector{}, impl.Vector{}), true)
	for _, a := range edgeBits {
		for _, b := range edgeBits {
			same := bitsOf(at(a)) == bitsOf(at(b))
			wantBool(t, "SameVector X", impl.SameVector(impl.Vector{X: at(a)}, impl.Vector{X: at(b)}), same)
			wantBool(t, "SameVector Y", impl.SameVector(impl.Vector{Y: at(a)}, impl.Vector{Y: at(b)}), same)
			wantBool(t, "SameVector Z", impl.SameVector(impl.Vector{Z: at(a)}, impl.Vector{Z: at(b)}), same)
		}
	}
}
