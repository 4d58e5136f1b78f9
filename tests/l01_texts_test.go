package tests

import (
	"fmt"
	"math"
	"strings"
	"testing"

	"loop.example/g01266/impl"
)

// wrongNumbers are texts that are nearly those of lists of numbers.
var wrongNumbers = []string{
	"", " ", ",", "None", "NONE", "none ", " none", "none,none", "none,3f800000", "3f800000,none", "3f800000,", ",3f800000", "3f800000,,3f800000",
	"3f80000", "3f8000000", "3F800000", "3f80000g", "3f80000G", " 3f800000", "3f800000 ", "3f800000\n", "3f800000, 3f800000", "3f800000;3f800000",
	"+3f80000", "-3f80000", "0x3f8000", "3f80_000", "+f800000", "-f800000", "3f8000\xc3\xa9", "3f80000\x00", "\x003f80000", "１２３４５６７８", "3f800000.",
	"7fc00001", "ffc00000", "7f800001", "ff800001", "ffffffff", "7fffffff", "7fbfffff", "00000000,7fc00001", "7FC00000",
}

func TestNumberTexts(t *testing.T) {
	var list []float32
	var words []string
	for _, bits := range edgeBits {
		list = append(list, at(bits))
		words = append(words, fmt.Sprintf("%08x", bitsOf(at(bits))))
		wantNumberText(t, []float32{at(bits)}, words[len(words)-1])
		wantNumberText(t, list, strings.Join(words, ","))
	}
	wantNumberText(t, nil, "none")
	wantNumberText(t, []float32{}, "none")
	wantNumberText(t, []float32{1, -2}, "3f800000,c0000000")
	wantNumberText(t, []float32{minusZero, 0, at(0xffc12345), at(0xabcdef)}, "80000000,00000000,7fc00000,00abcdef")
	wantNumberText(t, make([]float32, 256), strings.Repeat("00000000,", 255)+"00000000")
	for _, n := range []int{257, 1000} {
		if got, ok := impl.NumbersText(make([]float32, n)); got != "" || ok {
			t.Errorf("NumbersText of %d: got %q %v", n, got, ok)
		}
	}
	wrong := append([]string{strings.Repeat("00000000,", 256) + "00000000", strings.Repeat(",", 256), strings.Repeat("0", 17)}, wrongNumbers...)
	for _, text := range wrong {
		if got, ok := impl.ReadNumbers(text); len(got) != 0 || ok {
			t.Errorf("ReadNumbers %.40q: got %v %v", text, got, ok)
		}
	}
}

func wantNumberText(t *testing.T, list []float32, want string) {
	t.Helper()
	if got, ok := impl.NumbersText(list); got != want || !ok {
		t.Errorf("NumbersText of %.60s: got %q %v, want %q", wordsOf(list), got, ok, want)
	}
	if got, ok := impl.ReadNumbers(want); wordsOf(got) != wordsOf(list) || !ok {
		t.Errorf("ReadNumbers %.60q: got %s %v", want, wordsOf(got), ok)
	}
}

func TestComplexTexts(t *testing.T) {
	var list []complex64
	var words []string
	for i, a := range edgeBits {
		b := edgeBits[(7*i+4)%len(edgeBits)]
		list = append(list, complex(at(a), at(b)))
		words = append(words, fmt.Sprintf("%08x%08x", bitsOf(at(a)), bitsOf(at(b))))
		wantComplexText(t, list, strings.Join(words, ","))
	}
	wantComplexText(t, nil, "none")
	wantComplexText(t, []complex64{}, "none")
	wantComplexText(t, []complex64{1, complex(0, -2)}, "3f80000000000000,00000000c0000000")
	wantComplexText(t, make([]complex64, 256), strings.Repeat("0000000000000000,", 255)+"0000000000000000")
	for _, n := range []int{257, 1000} {
		if got, ok := impl.ComplexText(make([]complex64, n)); got != "" || ok {
			t.Errorf("ComplexText of %d: got %q %v", n, got, ok)
		}
	}
	wrong := []string{
		strings.Repeat("0000000000000000,", 256) + "0000000000000000", "3f800000", "3f800000,00000000", "3f80000000000000,",
		"3f8000000000000", "3f800000000000000", "3f800000 0000000", "3f80000000000000,3f800000", "3f8000000000000G", "3f80000000000000,none",
		"3F80000000000000", "000000003F800000", "7fc0000100000000", "000000007fc00001", "00000000ffc00000", "+f80000000000000", "00000000+f800000",
		"00000000-0000000", "0000000,00000000", "0000000000000000 ",
	}
	for _, text := range append(wrong, wrongNumbers...) {
		if got, ok := impl.ReadComplex(text); len(got) != 0 || ok {
			t.Errorf("ReadComplex %.40q: got %v %v", text, got, ok)
		}
	}
}

func wantComplexText(t *testing.T, list []complex64, want string) {
	t.Helper()
	if got, ok := impl.ComplexText(list); got != want || !ok {
		t.Errorf("ComplexText of %v: got %q %v, want %q", list, got, ok, want)
	}
	got, ok := impl.ReadComplex(want)
	if !ok || len(got) != len(list) {
		t.Fatalf("ReadComplex %.60q: got %v %v", want, got, ok)
	}
	for i, x := range got {
		wantComplex(t, "ReadComplex", x, bitsOf(real(list[i])), bitsOf(imag(list[i])))
	}
}

func TestVectorTexts(t *testing.T) {
	for i, a := range edgeBits {
		b, c := edgeBits[(3*i+1)%len(edgeBits)], edgeBits[(5*i+2)%len(edgeBits)]
		v := impl.Vector{X: at(a), Y: at(b), Z: at(c)}
		want := strings.ReplaceAll(wordsOf(numbers(v)), " ", ",")
		if got := impl.VectorText(v); got != want {
			t.Errorf("VectorText: got %q, want %q", got, want)
		}
		if got, ok := impl.ReadVector(want); wordsOf(numbers(got)) != wordsOf(numbers(v)) || !ok {
			t.Errorf("ReadVector %q: got %v %v", want, got, ok)
		}
	}
	wrong := []string{
		"none", "3f800000", "3f800000,3f800000", "3f800000,3f800000,3f800000,3f800000", "3f800000,3f800000,3f800000,", "3f800000,3f800000,3F800000",
		"3f800000,3f800000,7fc00001", "3f800000,,3f800000", "3f800000 3f800000 3f800000", "none,none,none", "3f800000,3f800000,none",
	}
	for _, text := range append(wrong, wrongNumbers...) {
		if got, ok := impl.ReadVector(text); !impl.SameVector(got, impl.Vector{}) || ok {
			t.Errorf("ReadVector %q: got %v %v", text, got, ok)
		}
	}
}

func TestNames(t *testing.T) {
	for text, want := range map[string]bool{
		"a": true, "z": true, "ring": true, "abcdefgh": true, "zzzzzzzz": true, "none": true,
		"": false, "abcdefghi": false, "A": false, "aB": false, "a1": false, "1": false, "a b": false, " a": false, "a ": false, "a\n": false,
		"é": false, "a`": false, "{": false, "a-b": false, "a\x00": false, "\xff": false, "ｒｉｎｇ": false,
	} {
		wantBool(t, fmt.Sprintf("IsName %q", text), impl.IsName(text), want)
	}
	for b := range 256 {
		letter := b >= 'a' && b <= 'z'
		wantBool(t, fmt.Sprintf("IsName with the byte %d", b), impl.IsName(string([]byte{'q', byte(b), 'q'})), letter)
	}
}

func TestDecimals(t *testing.T) {
	for n, want := range map[int64]string{
		0: "0", 7: "7", -4: "-4", 10: "10", -100: "-100", 1234567890: "1234567890",
		1000000000000000: "1000000000000000", -1000000000000000: "-1000000000000000", 999999999999999: "999999999999999",
	} {
		if got := impl.Decimal(n); got != want {
			t.Errorf("Decimal %d: got %q", n, got)
		}
		if got, ok := impl.ReadDecimal(want); got != n || !ok {
			t.Errorf("ReadDecimal %q: got %d %v", want, got, ok)
		}
	}
	for n, want := range map[int64]string{
		1000000000000001: "1000000000000001", -1000000000000001: "-1000000000000001",
		math.MaxInt64: "9223372036854775807", math.MinInt64: "-9223372036854775808",
	} {
		if got := impl.Decimal(n); got != want {
			t.Errorf("Decimal %d: got %q", n, got)
		}
		if got, ok := impl.ReadDecimal(want); got != 0 || ok {
			t.Errorf("ReadDecimal %q: got %d %v", want, got, ok)
		}
	}
	for _, text := range wrongDecimals {
		if got, ok := impl.ReadDecimal(text); got != 0 || ok {
			t.Errorf("ReadDecimal %q: got %d %v", text, got, ok)
		}
	}
}

// wrongDecimals are texts that are nearly those of integers.
var wrongDecimals = []string{
	"", "-", "+", "+1", "-0", "+0", "00", "01", "-01", "007", "--1", " 1", "1 ", "1\n", "1.0", "1e3", "0x1", "0b1", "0o7", "1_000", "a", "1a", "ff",
	"١", "１", "−1", "1\x00", "9223372036854775808", "-9223372036854775809", "18446744073709551616", "18446744073709551617",
	"99999999999999999999999999",
}

func TestIntegerLists(t *testing.T) {
	wantListText(t, nil, "none")
	wantListText(t, []int64{}, "none")
	wantListText(t, []int64{0}, "0")
	wantListText(t, []int64{1, -2, 3, 3}, "1,-2,3,3")
	wantListText(t, []int64{impl.MaxValue, -impl.MaxValue, 0}, "1000000000000000,-1000000000000000,0")
	wantListText(t, make([]int64, 64), strings.Repeat("0,", 63)+"0")
	for _, list := range [][]int64{make([]int64, 65), {impl.MaxValue + 1}, {0, -impl.MaxValue - 1}, {math.MinInt64}, {math.MaxInt64, 1}} {
		if got, ok := impl.ListText(list); got != "" || ok {
			t.Errorf("ListText of %v: got %q %v", list, got, ok)
		}
	}
	wrong := []string{
		"None", "none,", "none,1", "1,none", ",", "1,", ",1", "1,,2", "1, 2", "1 ,2", "1;2", "1,2,", "1,-0", "1,02", "1,+2",
		"1000000000000001", "0,-1000000000000001", strings.Repeat("0,", 64) + "0", strings.Repeat(",", 63), strings.Repeat(",", 64),
	}
	for _, text := range append(wrong, wrongDecimals...) {
		if got, ok := impl.ReadList(text); len(got) != 0 || ok {
			t.Errorf("ReadList %.40q: got %v %v", text, got, ok)
		}
	}
}

func wantListText(t *testing.T, list []int64, want string) {
	t.Helper()
	if got, ok := impl.ListText(list); got != want || !ok {
		t.Errorf("ListText of %v: got %q %v", list, got, ok)
	}
	got, ok := impl.ReadList(want)
	if !ok || len(got) != len(list) {
		t.Fatalf("ReadList %q: got %v %v", want, got, ok)
	}
	for i, n := range got {
		if n != list[i] {
			t.Errorf("ReadList %q: got %v", want, got)
		}
	}
}

func TestChecks(t *testing.T) {
	rows := []struct {
		start int64
		text  string
		want  int64
	}{
		{0, "", 0}, {65002, "", 65002}, {0, "a", 194}, {1, "a", 981}, {65002, "zz", 8224}, {12345, "whirls none", 21703},
		{7, "\x00\xff\x80", 64606}, {0, strings.Repeat("\xff", 40), 2714}, {0, "\x00", 97}, {3, "é ab 渦", 51453},
	}
	for _, row := range rows {
		if got, ok := impl.CheckOf(row.start, row.text); got != row.want || !ok {
			t.Errorf("CheckOf %d %q: got %d %v, want %d", row.start, row.text, got, ok, row.want)
		}
	}
	for _, start := range []int64{-1, 65003, math.MaxInt64, math.MinInt64} {
		for _, text := range []string{"", "a"} {
			if got, ok := impl.CheckOf(start, text); got != 0 || ok {
				t.Errorf("CheckOf %d %q: got %d %v", start, text, got, ok)
			}
		}
	}
	text := strings.Repeat("any bytes \x00\xfe\xff", 100)
	whole, _ := impl.CheckOf(4321, text)
	for cut := range len(text) {
		first, _ := impl.CheckOf(4321, text[:cut])
		if got, ok := impl.CheckOf(first, text[cut:]); got != whole || !ok {
			t.Fatalf("the check of two parts, cut at %d: got %d, want %d", cut, got, whole)
		}
	}
}

func TestConstantsOfChapter1(t *testing.T) {
	got := fmt.Sprint(impl.MaxNumbers, int64(impl.MaxValue), impl.MaxItems, impl.CheckSize)
	if want := "256 1000000000000000 64 65003"; got != want {
		t.Errorf("constants: got %s, want %s", got, want)
	}
}
