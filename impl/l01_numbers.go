package impl

import (
	"math"
	"strconv"
	"strings"
)

// Limits of chapter 1.
const (
	MaxNumbers = 256
	MaxValue   = 1000000000000000
	MaxItems   = 64
	CheckSize  = 65003
)

// How numbers are written with bits.
const (
	mostBits        = 4294967295
	bitsWithoutSign = 2147483647
	bitsOfInfinity  = 2139095040
	bitsOfNoNumber  = 2143289344
	leastNormalBits = 8388608
	digitsOfNumber  = 8
)

// firstWhole is where 64-bit numbers stop having places behind the point.
const firstWhole = 1 << 52

// emptyText stands for every empty list.
const emptyText = "none"

// betweenItems stands between the items of lists of numbers.
const betweenItems = ","

// Vector has three numbers.
type Vector struct {
	X float32
	Y float32
	Z float32
}

// vectorBits has the bits of the numbers of a vector: unlike the numbers, they are equal just where these are the same.
type vectorBits struct {
	x, y, z int64
}

// SameNumber reports whether two numbers are the same.
func SameNumber(a, b float32) bool { return BitsOf(a) == BitsOf(b) }

// IsFinite reports whether x is finite.
func IsFinite(x float32) bool { return math.Float32bits(x)&bitsWithoutSign < bitsOfInfinity }

// BitsOf returns the bits of a number.
func BitsOf(x float32) int64 {
	if x != x {
		return bitsOfNoNumber
	}
	return int64(math.Float32bits(x))
}

// FromBits returns the number with the given bits.
func FromBits(n int64) (float32, bool) {
	if n < 0 || n > mostBits {
		return 0, false
	}
	return math.Float32frombits(uint32(n)), true
}

// NarrowNumber returns the nearest 32-bit number.
func NarrowNumber(x float64) float32 { return float32(x) }

// IsSubnormal reports whether x is subnormal.
func IsSubnormal(x float32) bool {
	size := math.Float32bits(x) & bitsWithoutSign
	return size > 0 && size < leastNormalBits
}

// FlushNumber returns x, but a zero if it is subnormal.
func FlushNumber(x float32) float32 {
	if IsSubnormal(x) {
		return math.Float32frombits(math.Float32bits(x) &^ bitsWithoutSign)
	}
	return x
}

func notANumber() float32 { return math.Float32frombits(bitsOfNoNumber) }

// product is rounded by the conversion: without it, a machine may add something to the exact product.
func product(a, b float32) float32 { return float32(a * b) }

// longProduct is rounded for the same reason as product.
func longProduct(a, b float64) float64 { return float64(a * b) }

// SameComplex reports whether two complex numbers are the same.
func SameComplex(a, b complex64) bool {
	return SameNumber(real(a), real(b)) && SameNumber(imag(a), imag(b))
}

// IsFiniteComplex reports whether both parts are finite.
func IsFiniteComplex(x complex64) bool { return IsFinite(real(x)) && IsFinite(imag(x)) }

// NarrowComplex returns a number with narrowed parts.
func NarrowComplex(x complex128) complex64 {
	return complex(NarrowNumber(real(x)), NarrowNumber(imag(x)))
}

// MulComplex returns a product.
func MulComplex(x, y complex64) complex64 { return NarrowComplex(exactProduct(x, y)) }

// exactProduct multiplies in 64-bit numbers, in which the products of 32-bit parts are exact.
func exactProduct(x, y complex64) complex128 { return longTimes(complex128(x), complex128(y)) }

// longTimes multiplies complex numbers with 64-bit parts.
func longTimes(x, y complex128) complex128 {
	a, b := real(x), imag(x)
	c, d := real(y), imag(y)
	return complex(longProduct(a, c)-longProduct(b, d), longProduct(a, d)+longProduct(b, c))
}

// ScaleComplex returns a product with a number.
func ScaleComplex(x complex64, by float32) complex64 {
	return complex(product(real(x), by), product(imag(x), by))
}

// ConjugateOf returns the conjugate.
func ConjugateOf(x complex64) complex64 { return complex(real(x), -imag(x)) }

// PowerOf returns the power.
func PowerOf(x complex64) float32 { return NarrowNumber(longPower(x)) }

func longPower(x complex64) float64 {
	a, b := float64(real(x)), float64(imag(x))
	return longProduct(a, a) + longProduct(b, b)
}

// LongOf returns the root of the power.
func LongOf(x complex64) float32 { return NarrowNumber(math.Sqrt(longPower(x))) }

// QuotientOf returns a quotient.
func QuotientOf(x, y complex64) complex64 {
	above, below := exactProduct(x, ConjugateOf(y)), longPower(y)
	return NarrowComplex(complex(real(above)/below, imag(above)/below))
}

// RootNumber returns the square root.
func RootNumber(x float32) float32 { return NarrowNumber(math.Sqrt(float64(x))) }

// partOfTurn leaves the part of a turn, for turns nearer to 0 than firstWhole.
func partOfTurn(turns float64) float64 {
	// The integer has no sign if it is 0, so that the part of -0 is -0.
	part := turns - float64(int64(turns))
	if part < 0 {
		part += 1
	}
	return part
}

// sineOf returns the sine of turns nearer to 0 than firstWhole.
func sineOf(turns float64) float64 {
	part := partOfTurn(turns)
	turned := part >= 0.5
	if turned {
		part -= 0.5
	}
	if part > 0.25 {
		part = 0.5 - part
	}
	z := longProduct(part, 6.283185307179586)
	u := longProduct(z, z)
	p := 1.0
	for k := 8; k >= 1; k-- {
		p = 1 - longProduct(u, p)/float64(2*k*(2*k+1))
	}
	sine := longProduct(z, p)
	if turned {
		return -sine
	}
	return sine
}

// SineTurns returns the sine of some turns.
func SineTurns(x float32) float32 {
	if !IsFinite(x) {
		return notANumber()
	}
	turns := float64(x)
	if math.Abs(turns) >= firstWhole {
		return 0
	}
	return NarrowNumber(sineOf(turns))
}

// PhasorOf returns a point of the unit circle.
func PhasorOf(turns float64) complex64 {
	if math.IsNaN(turns) || math.IsInf(turns, 0) {
		return complex(notANumber(), notANumber())
	}
	if math.Abs(turns) >= firstWhole {
		return 1
	}
	part, quarters := partOfTurn(turns), 0
	for part >= 0.25 {
		part -= 0.25
		quarters++
	}
	c, s := sineOf(0.25-part), sineOf(part)
	// Differences from 0, not opposites: a zero must not get a sign here.
	switch quarters {
	case 1:
		return NarrowComplex(complex(0-s, c))
	case 2:
		return NarrowComplex(complex(0-c, 0-s))
	case 3:
		return NarrowComplex(complex(s, 0-c))
	}
	return NarrowComplex(complex(c, s))
}

// AngleOf returns the angle in turns.
func AngleOf(x complex64) float32 { return AngleTurns(imag(x), real(x)) }

// AngleTurns returns the angle of a point.
func AngleTurns(y, x float32) float32 {
	if !IsFinite(x) || !IsFinite(y) {
		return notANumber()
	}
	if x == 0 && y == 0 {
		return 0
	}
	a, b := math.Abs(float64(y)), math.Abs(float64(x))
	var angle float64
	if a > b {
		angle = 0.25 - flatAngle(b/a)
	} else {
		angle = flatAngle(a / b)
	}
	if x < 0 {
		angle = 0.5 - angle
	}
	if y < 0 {
		angle = -angle
	}
	return NarrowNumber(angle)
}

// flatAngle returns the turns of an angle of at most an eighth, whose tangent is t.
func flatAngle(t float64) float64 {
	for range 3 {
		t = t / (1 + math.Sqrt(1+longProduct(t, t)))
	}
	u := longProduct(t, t)
	p := 0.0
	for k := 15; k >= 1; k -= 2 {
		p = 1/float64(k) - longProduct(u, p)
	}
	return longProduct(8, longProduct(t, p)) / 6.283185307179586
}

// TenthsOf returns tenths of decibels.
func TenthsOf(power float32) (int64, bool) {
	if !IsFinite(power) || power <= 0 {
		return 0, false
	}
	tenths := longProduct(logarithmOf(float64(power)), 43.42944819032518)
	return int64(math.Floor(tenths + 0.5)), true
}

// logarithmOf returns the logarithm of a finite number greater than 0.
func logarithmOf(x float64) float64 {
	halvings := 0
	for x >= 1.5 {
		x /= 2
		halvings++
	}
	for x < 0.75 {
		x *= 2
		halvings--
	}
	s := (x - 1) / (x + 1)
	u := longProduct(s, s)
	q := 0.0
	for k := 25; k >= 1; k -= 2 {
		q = 1/float64(k) + longProduct(u, q)
	}
	return longProduct(2, longProduct(s, q)) + longProduct(float64(halvings), 0.6931471805599453)
}

// LogNumber returns the logarithm.
func LogNumber(x float32) float32 {
	switch {
	case x == 0:
		return float32(math.Inf(-1))
	case x > 0 && IsFinite(x):
		return NarrowNumber(logarithmOf(float64(x)))
	case x > 0:
		return x
	}
	return notANumber()
}

type numeral interface {
	float32 | complex64 | complex128
}

func sumOf[T numeral](list []T) (T, bool) {
	if len(list) > MaxNumbers {
		return 0, false
	}
	var sum T
	for _, x := range list {
		sum += x
	}
	return sum, true
}

// dotOf leaves it to times to round its product, so that no sum is made of an exact one.
func dotOf[T numeral](a, b []T, times func(T, T) T) (T, bool) {
	if len(a) > MaxNumbers || len(a) != len(b) {
		return 0, false
	}
	var sum T
	for i, x := range a {
		sum += times(x, b[i])
	}
	return sum, true
}

// SumNumbers returns the sum from left to right.
func SumNumbers(list []float32) (float32, bool) { return sumOf(list) }

// DotNumbers returns the sum of products.
func DotNumbers(a, b []float32) (float32, bool) { return dotOf(a, b, product) }

// SumComplex returns the sum from left to right.
func SumComplex(list []complex64) (complex64, bool) { return sumOf(list) }

// DotComplex returns the sum of products.
func DotComplex(a, b []complex64) (complex64, bool) { return dotOf(a, b, MulComplex) }

// DotConjugate returns the sum of products with conjugates.
func DotConjugate(a, b []complex64) (complex64, bool) { return dotOf(a, b, conjugateProduct) }

func conjugateProduct(x, y complex64) complex64 { return MulComplex(ConjugateOf(x), y) }

// PowersOf returns the sum of powers.
func PowersOf(list []complex64) (float32, bool) {
	if len(list) > MaxNumbers {
		return 0, false
	}
	sum := 0.0
	for _, x := range list {
		sum += longPower(x)
	}
	return NarrowNumber(sum), true
}

// AddVectors returns the sums of numbers.
func AddVectors(a, b Vector) Vector { return Vector{a.X + b.X, a.Y + b.Y, a.Z + b.Z} }

// LessVectors returns the differences of numbers.
func LessVectors(a, b Vector) Vector { return Vector{a.X - b.X, a.Y - b.Y, a.Z - b.Z} }

// ScaleVector returns the products with a number.
func ScaleVector(v Vector, by float32) Vector {
	return Vector{product(v.X, by), product(v.Y, by), product(v.Z, by)}
}

// InnerOf returns the sum of products.
func InnerOf(a, b Vector) float32 {
	return product(a.X, b.X) + product(a.Y, b.Y) + product(a.Z, b.Z)
}

// CrossOf returns the vector across two others.
func CrossOf(a, b Vector) Vector {
	return Vector{
		X: product(a.Y, b.Z) - product(a.Z, b.Y),
		Y: product(a.Z, b.X) - product(a.X, b.Z),
		Z: product(a.X, b.Y) - product(a.Y, b.X),
	}
}

// SizeOfVector returns the length of a vector.
func SizeOfVector(v Vector) float32 { return RootNumber(InnerOf(v, v)) }

// BetweenVectors returns a vector between two others.
func BetweenVectors(a, b Vector, share float32) Vector {
	return AddVectors(a, ScaleVector(LessVectors(b, a), share))
}

// SameVector reports whether two vectors are the same.
func SameVector(a, b Vector) bool { return bitsOfVector(a) == bitsOfVector(b) }

func bitsOfVector(v Vector) vectorBits {
	return vectorBits{BitsOf(v.X), BitsOf(v.Y), BitsOf(v.Z)}
}

// VectorText returns the text of a vector.
func VectorText(v Vector) string {
	text, _ := NumbersText([]float32{v.X, v.Y, v.Z})
	return text
}

// ReadVector returns the vector with the given text.
func ReadVector(s string) (Vector, bool) {
	list, ok := ReadNumbers(s)
	if !ok || len(list) != 3 {
		return Vector{}, false
	}
	return Vector{list[0], list[1], list[2]}, true
}

// itemsText returns the texts of at most most items, with a text between two of them.
func itemsText[T any](list []T, most int, between string, textOf func(T) string) (string, bool) {
	if len(list) > most {
		return "", false
	}
	if len(list) == 0 {
		return emptyText, true
	}
	words := make([]string, len(list))
	for i, x := range list {
		words[i] = textOf(x)
	}
	return strings.Join(words, between), true
}

// readItems returns the list of at most most items that itemsText writes as s.
func readItems[T any](s string, most int, between string, read func(string) (T, bool)) ([]T, bool) {
	if s == emptyText {
		return nil, true
	}
	if strings.Count(s, between) >= most {
		return nil, false
	}
	words := strings.Split(s, between)
	list := make([]T, len(words))
	for i, word := range words {
		x, ok := read(word)
		if !ok {
			return nil, false
		}
		list[i] = x
	}
	return list, true
}

func numberText(x float32) string {
	digits := strconv.FormatInt(BitsOf(x), 16)
	return strings.Repeat("0", digitsOfNumber-len(digits)) + digits
}

func readNumber(s string) (float32, bool) {
	if len(s) != digitsOfNumber {
		return 0, false
	}
	bits, err := strconv.ParseUint(s, 16, 32)
	if err != nil {
		return 0, false
	}
	x := math.Float32frombits(uint32(bits))
	// Capital digits and other bits of a not-a-number are in no text.
	if numberText(x) != s {
		return 0, false
	}
	return x, true
}

func complexText(x complex64) string { return numberText(real(x)) + numberText(imag(x)) }

func readComplexNumber(s string) (complex64, bool) {
	if len(s) != 2*digitsOfNumber {
		return 0, false
	}
	a, okA := readNumber(s[:digitsOfNumber])
	b, okB := readNumber(s[digitsOfNumber:])
	if !okA || !okB {
		return 0, false
	}
	return complex(a, b), true
}

// NumbersText returns the text of numbers.
func NumbersText(list []float32) (string, bool) {
	return itemsText(list, MaxNumbers, betweenItems, numberText)
}

// ReadNumbers returns the numbers with the given text.
func ReadNumbers(s string) ([]float32, bool) {
	return readItems(s, MaxNumbers, betweenItems, readNumber)
}

// ComplexText returns the text of complex numbers.
func ComplexText(list []complex64) (string, bool) {
	return itemsText(list, MaxNumbers, betweenItems, complexText)
}

// ReadComplex returns the complex numbers with the given text.
func ReadComplex(s string) ([]complex64, bool) {
	return readItems(s, MaxNumbers, betweenItems, readComplexNumber)
}

// IsName reports whether s is a name.
func IsName(s string) bool {
	if len(s) < 1 || len(s) > 8 {
		return false
	}
	for i := range len(s) {
		if s[i] < 'a' || s[i] > 'z' {
			return false
		}
	}
	return true
}

// Decimal returns n in decimal.
func Decimal(n int64) string { return strconv.FormatInt(n, 10) }

func isValue(n int64) bool { return n >= -MaxValue && n <= MaxValue }

// ReadDecimal returns the number with the given decimal text.
func ReadDecimal(s string) (int64, bool) {
	n, err := strconv.ParseInt(s, 10, 64)
	// A plus, leading zeros and -0 are in no decimal text.
	if err != nil || !isValue(n) || Decimal(n) != s {
		return 0, false
	}
	return n, true
}

// ListText returns the text of a list.
func ListText(list []int64) (string, bool) {
	for _, n := range list {
		if !isValue(n) {
			return "", false
		}
	}
	return itemsText(list, MaxItems, betweenItems, Decimal)
}

// ReadList returns the list with the given text.
func ReadList(s string) ([]int64, bool) { return readItems(s, MaxItems, betweenItems, ReadDecimal) }

// CheckOf returns the check number of a text.
func CheckOf(start int64, s string) (int64, bool) {
	if start < 0 || start >= CheckSize {
		return 0, false
	}
	check := start
	for i := range len(s) {
		check = (787*check + int64(s[i]) + 97) % CheckSize
	}
	return check, true
}
