package tests

import (
	"fmt"
	"math"
	"strconv"
	"strings"
	"testing"

	"loop.example/g01266/impl"
)

const (
	noNumber = 0x7fc00000
	infinity = 0x7f800000
	signBit  = 0x80000000
)

var minusZero = at(signBit)

// at returns the number with the given bits.
func at(bits uint32) float32 { return math.Float32frombits(bits) }

// bitsOf is told without the program, so that a wrong BitsOf hides nothing.
func bitsOf(x float32) uint32 {
	if x != x {
		return noNumber
	}
	return math.Float32bits(x)
}

func wantNumber(t *testing.T, what string, got float32, want uint32) {
	t.Helper()
	if bitsOf(got) != want {
		t.Errorf("%s: got %08x, want %08x", what, bitsOf(got), want)
	}
}

func wantComplex(t *testing.T, what string, got complex64, re, im uint32) {
	t.Helper()
	if bitsOf(real(got)) != re || bitsOf(imag(got)) != im {
		t.Errorf("%s: got %08x %08x, want %08x %08x", what, bitsOf(real(got)), bitsOf(imag(got)), re, im)
	}
}

func wantBool(t *testing.T, what string, got, want bool) {
	t.Helper()
	if got != want {
		t.Errorf("%s: got %v, want %v", what, got, want)
	}
}

func wordsOf(list []float32) string {
	words := make([]string, len(list))
	for i, x := range list {
		words[i] = fmt.Sprintf("%08x", bitsOf(x))
	}
	return strings.Join(words, " ")
}

func numbersOf(t *testing.T, words string) []float32 {
	t.Helper()
	var list []float32
	for _, word := range strings.Fields(words) {
		n, err := strconv.ParseUint(word, 16, 32)
		if err != nil {
			t.Fatal(err)
		}
		list = append(list, at(uint32(n)))
	}
	return list
}

// wantRows checks rows of the bits of arguments, a stroke, and the bits of results.
func wantRows(t *testing.T, name, rows string, call func(in []float32) []float32) {
	t.Helper()
	wantToldRows(t, name, rows, func(in []float32) string { return wordsOf(call(in)) })
}

// wantToldRows does the same with results that are told in words, such as failures.
func wantToldRows(t *testing.T, name, rows string, call func(in []float32) string) {
	t.Helper()
	for _, row := range strings.Split(strings.TrimSpace(rows), "\n") {
		in, want, found := strings.Cut(row, "|")
		if !found {
			t.Fatalf("%s: no row: %q", name, row)
		}
		if got := call(numbersOf(t, in)); got != want {
			t.Errorf("%s of %s: got %s, want %s", name, in, got, want)
		}
	}
}

func complexOf(in []float32, i int) complex64 { return complex(in[i], in[i+1]) }

func complexList(in []float32) []complex64 {
	var list []complex64
	for i := 0; i < len(in); i += 2 {
		list = append(list, complexOf(in, i))
	}
	return list
}

func vectorOf(in []float32, i int) impl.Vector {
	return impl.Vector{X: in[i], Y: in[i+1], Z: in[i+2]}
}

func parts(x complex64) []float32 { return []float32{real(x), imag(x)} }

func numbers(v impl.Vector) []float32 { return []float32{v.X, v.Y, v.Z} }

// edgeBits has numbers at which rules change: zeros, subnormal ones, the ends, infinities and not-a-numbers.
var edgeBits = []uint32{
	0, signBit, 1, signBit + 1, 0x007fffff, 0x807fffff, 0x00800000, 0x80800000,
	0x3f800000, 0xbf800000, 0x3e800000, 0x3f000000, 0xbf000000, 0x40490fdb, 0xc2f6e979,
	0x59800000, 0xd9800000, 0x597fffff, 0x7f7fffff, 0xff7fffff,
	infinity, signBit + infinity, noNumber, 0xffc00000, 0x7f800001, 0xffffffff,
}
