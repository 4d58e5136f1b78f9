package tests

import (
	"bytes"
	"fmt"
	"go/ast"
	"go/parser"
	"go/token"
	"math"
	"os"
	"reflect"
	"runtime"
	"strings"
	"testing"
	"time"

	"loop.example/g01266/impl"
)

// callLimit is far more than all calls of one function need.
const callLimit = 2 * time.Minute

// describe tells a value to the last bit, with all not-a-numbers alike, and nil lists like empty ones.
func describe(v reflect.Value) string {
	switch v.Kind() {
	case reflect.Float32:
		return fmt.Sprintf("%08x", bitsOf(float32(v.Float())))
	case reflect.Float64:
		if math.IsNaN(v.Float()) {
			return "nan"
		}
		return fmt.Sprintf("%016x", math.Float64bits(v.Float()))
	case reflect.Complex64, reflect.Complex128:
		c := v.Complex()
		return describe(reflect.ValueOf(real(c))) + "," + describe(reflect.ValueOf(imag(c)))
	case reflect.Slice:
		var b bytes.Buffer
		for i := range v.Len() {
			b.WriteString(describe(v.Index(i)) + ";")
		}
		return "[" + b.String() + "]"
	case reflect.Struct:
		var b bytes.Buffer
		for i := range v.NumField() {
			b.WriteString(describe(v.Field(i)) + ";")
		}
		return "{" + b.String() + "}"
	}
	return fmt.Sprintf("%#v", v.Interface())
}

func describeAll(list []reflect.Value) string {
	var words []string
	for _, v := range list {
		words = append(words, describe(v))
	}
	return strings.Join(words, " | ")
}

// rawAll tells all values with their spare capacity and the bits of not-a-numbers.
func rawAll(list []reflect.Value) string {
	var b bytes.Buffer
	for _, v := range list {
		b.WriteString(rawText(v))
	}
	return b.String()
}

func rawText(v reflect.Value) string {
	var b bytes.Buffer
	switch v.Kind() {
	case reflect.Slice:
		v = v.Slice(0, v.Cap())
		fmt.Fprintf(&b, "%d:", v.Len())
		for i := range v.Len() {
			b.WriteString(rawText(v.Index(i)))
		}
		return b.String()
	case reflect.Struct:
		for i := range v.NumField() {
			b.WriteString(rawText(v.Field(i)))
		}
		return b.String()
	}
	switch x := v.Interface().(type) {
	case float32:
		return fmt.Sprintf("%08x;", math.Float32bits(x))
	case complex64:
		return fmt.Sprintf("%08x,%08x;", math.Float32bits(real(x)), math.Float32bits(imag(x)))
	}
	return fmt.Sprintf("%v;", v.Interface())
}

// ownCopy returns the same value in other memory and with spare capacity of other contents.
func ownCopy(v reflect.Value) reflect.Value {
	switch v.Kind() {
	case reflect.Slice:
		c := reflect.MakeSlice(v.Type(), v.Len(), v.Len()+5)
		for i := range v.Len() {
			c.Index(i).Set(ownCopy(v.Index(i)))
		}
		all := c.Slice(0, c.Cap())
		for i := v.Len(); i < all.Len(); i++ {
			scribble(all.Index(i))
		}
		return c
	case reflect.Struct:
		c := reflect.New(v.Type()).Elem()
		for i := range v.NumField() {
			c.Field(i).Set(ownCopy(v.Field(i)))
		}
		return c
	}
	return v
}

func scribble(v reflect.Value) {
	switch v.Kind() {
	case reflect.Float32:
		v.SetFloat(77)
	case reflect.Complex64:
		v.SetComplex(complex(77, -77))
	case reflect.Int64:
		v.SetInt(77)
	case reflect.String:
		v.SetString("77")
	case reflect.Struct:
		for i := range v.NumField() {
			scribble(v.Field(i))
		}
	case reflect.Slice:
		spoil(v)
	}
}

// spoil overwrites all memory of a result: no later call may see this.
func spoil(v reflect.Value) {
	for _, slice := range slicesIn(v) {
		all := slice.Slice(0, slice.Cap())
		for i := range all.Len() {
			scribble(all.Index(i))
		}
	}
}

// slicesIn returns all slices of which a value is made.
func slicesIn(v reflect.Value) []reflect.Value {
	var list []reflect.Value
	switch v.Kind() {
	case reflect.Slice:
		list = append(list, v)
		for i := range v.Len() {
			list = append(list, slicesIn(v.Index(i))...)
		}
	case reflect.Struct:
		for i := range v.NumField() {
			list = append(list, slicesIn(v.Field(i))...)
		}
	}
	return list
}

// shareMemory reports whether two slices of results have memory in common, be it spare.
func shareMemory(results []reflect.Value) bool {
	var all []reflect.Value
	for _, v := range results {
		all = append(all, slicesIn(v)...)
	}
	for i, a := range all {
		for _, b := range all[:i] {
			if a.Cap() > 0 && b.Cap() > 0 && a.Pointer() < endOf(b) && b.Pointer() < endOf(a) {
				return true
			}
		}
	}
	return false
}

func endOf(slice reflect.Value) uintptr {
	return slice.Pointer() + uintptr(slice.Cap())*slice.Type().Elem().Size()
}

func zerosWhenFailed(results []reflect.Value) bool {
	last := len(results) - 1
	if last < 1 || results[last].Kind() != reflect.Bool || results[last].Bool() {
		return true
	}
	for _, v := range results[:last] {
		if describe(v) != describe(reflect.Zero(v.Type())) {
			return false
		}
	}
	return true
}

// eachCall calls use with all combinations of values for the parameters.
func eachCall(f reflect.Type, values map[reflect.Type][]reflect.Value, use func(args []reflect.Value)) {
	var fill func(args []reflect.Value)
	fill = func(args []reflect.Value) {
		if len(args) == f.NumIn() {
			use(args)
			return
		}
		for _, v := range values[f.In(len(args))] {
			fill(append(args[:len(args):len(args)], v))
		}
	}
	fill(nil)
}

// pureCall calls f twice with equal arguments in different memory, and returns what f returns.
func pureCall(f reflect.Value, args []reflect.Value) (told, wrong string) {
	defer func() {
		if p := recover(); p != nil {
			wrong = fmt.Sprintf("panics: %v", p)
		}
	}()
	mine := make([]reflect.Value, len(args))
	for i, v := range args {
		mine[i] = ownCopy(v)
	}
	before := rawAll(mine)
	first := f.Call(mine)
	told = describeAll(first)
	if !zerosWhenFailed(first) {
		return told, "fails with a result that is not zero"
	}
	if shareMemory(first) {
		return told, "returns slices that share memory"
	}
	for _, v := range first {
		spoil(v)
	}
	if rawAll(mine) != before {
		return told, "modifies an argument, or shares its memory"
	}
	if again := describeAll(f.Call(args)); again != told {
		return told, "returns " + again + " at first, or with other spare capacity"
	}
	return told, ""
}

// checkCalls makes all calls of all functions twice: what is kept from call to call would show.
func checkCalls(t *testing.T, functions map[string]any, values map[reflect.Type][]reflect.Value) {
	t.Helper()
	told := map[string][]string{}
	for round := range 2 {
		for name, f := range functions {
			done := make(chan []string, 1)
			go func() { done <- callAll(t, name, reflect.ValueOf(f), values) }()
			select {
			case list := <-done:
				if len(list) == 0 {
					t.Errorf("%s: no calls", name)
				}
				if round == 1 && strings.Join(list, "\n") != strings.Join(told[name], "\n") {
					t.Errorf("%s: the second round differs", name)
				}
				told[name] = list
			case <-time.After(callLimit):
				t.Fatalf("%s does not return", name)
			}
		}
	}
}

func callAll(t *testing.T, name string, f reflect.Value, values map[reflect.Type][]reflect.Value) []string {
	var list []string
	wrongs := 0
	eachCall(f.Type(), values, func(args []reflect.Value) {
		told, wrong := pureCall(f, args)
		list = append(list, told)
		if wrong != "" && wrongs < 3 {
			wrongs++
			t.Errorf("%s(%.200s): %s: %.200s", name, describeAll(args), wrong, told)
		}
	})
	return list
}

// wantAllFunctions checks that a table has all exported functions of a file of the program.
func wantAllFunctions(t *testing.T, file string, functions map[string]any) {
	t.Helper()
	text, err := os.ReadFile("../impl/" + file)
	if err != nil {
		t.Fatal(err)
	}
	parsed, err := parser.ParseFile(token.NewFileSet(), file, text, 0)
	if err != nil {
		t.Fatal(err)
	}
	count := 0
	for _, d := range parsed.Decls {
		if f, ok := d.(*ast.FuncDecl); ok && f.Recv == nil && f.Name.IsExported() {
			count++
			if functions[f.Name.Name] == nil {
				t.Errorf("%s is not in the table", f.Name.Name)
			}
		}
	}
	if count != len(functions) {
		t.Errorf("%s has %d functions, the table %d", file, count, len(functions))
	}
}

// wantNoWorkersSince checks that there are no more workers than before: one that has ended its work may need a moment to end.
func wantNoWorkersSince(t *testing.T, before int) {
	t.Helper()
	for range 100 {
		if runtime.NumGoroutine() <= before {
			return
		}
		time.Sleep(10 * time.Millisecond)
	}
	t.Errorf("%d workers are left behind", runtime.NumGoroutine()-before)
}

func valuesOf[T any](list ...T) []reflect.Value {
	var values []reflect.Value
	for _, x := range list {
		values = append(values, reflect.ValueOf(x))
	}
	return values
}

func edgeNumbers() []float32 {
	var list []float32
	for _, bits := range edgeBits {
		list = append(list, at(bits))
	}
	return list
}

func edgeComplex() []complex64 {
	var list []complex64
	for i, a := range edgeBits {
		list = append(list, complex(at(a), at(edgeBits[(5*i+3)%len(edgeBits)])))
	}
	return append(list, 0, complex(minusZero, minusZero), complex(3, -4))
}

func edgeLongs() []float64 {
	whole := math.Ldexp(1, 52)
	return []float64{
		0, math.Copysign(0, -1), 0.25, -0.25, 0.5, 0.75, 1, -1, 1.0 / 3, -1e-17, 1e-300, 5e-324, -5e-324,
		whole, -whole, whole - 0.5, 0.5 - whole, math.MaxFloat64, -math.MaxFloat64,
		math.Inf(1), math.Inf(-1), math.NaN(), math.MaxFloat32, math.Ldexp(1, -150),
	}
}

func edgeVectors() []impl.Vector {
	var list []impl.Vector
	for i, a := range edgeBits {
		if i%2 == 0 {
			n := len(edgeBits)
			list = append(list, impl.Vector{X: at(a), Y: at(edgeBits[(3*i+7)%n]), Z: at(edgeBits[(7*i+2)%n])})
		}
	}
	return list
}

func edgeIntegers() []int64 {
	return []int64{
		0, 1, -1, 7, 97, impl.CheckSize - 1, impl.CheckSize, 2143289344, 4286578689, 4294967295, 4294967296,
		impl.MaxValue, -impl.MaxValue, impl.MaxValue + 1, -impl.MaxValue - 1, math.MaxInt64, math.MinInt64,
	}
}

func edgeTexts() []string {
	return []string{
		"", "none", "None", "none,", ",", "a", "ring", "abcdefgh", "abcdefghi", "é", "\xff\x00", "-", "-0", "0", "-1", "00",
		"1,2", "1,,2", "1,", "3f800000", "3f80000", "3f8000000", "3F800000", "7fc00000", "7fc00001", "ffc00000",
		"3f800000,c0000000", "3f800000,c0000000,00000000", "3f80000000000000", "+f800000", "1000000000000000", "1000000000000001",
		"99999999999999999999", strings.Repeat("0,", impl.MaxItems-1) + "0", strings.Repeat("0,", impl.MaxItems) + "0",
		strings.Repeat("00000000,", impl.MaxNumbers-1) + "00000000", strings.Repeat("00000000,", impl.MaxNumbers) + "00000000",
		strings.Repeat(",", 100000), strings.Repeat("z", 100000),
	}
}

// listsOf returns lists around a limit: nil, empty, short, at the limit and beyond it.
func listsOf[T any](most int, edges []T) [][]T {
	full := make([]T, most+1)
	for i := range full {
		full[i] = edges[i%len(edges)]
	}
	return [][]T{nil, {}, full[:1], edges, edges[2:5], full[:most:most], full}
}

func valuesByType(lists ...[]reflect.Value) map[reflect.Type][]reflect.Value {
	values := map[reflect.Type][]reflect.Value{}
	for _, list := range lists {
		kind := list[0].Type()
		values[kind] = append(values[kind], list...)
	}
	return values
}

// edgeValues has arguments for the functions of chapter 1.
func edgeValues() map[reflect.Type][]reflect.Value {
	return valuesByType(
		valuesOf(edgeNumbers()...), valuesOf(edgeComplex()...), valuesOf(edgeLongs()...), valuesOf(edgeVectors()...),
		valuesOf(edgeIntegers()...), valuesOf(edgeTexts()...), valuesOf(complex(1e300, math.NaN()), complex(math.Inf(1), -5e-324), 1),
		valuesOf(listsOf(impl.MaxNumbers, edgeNumbers())...),
		valuesOf(listsOf(impl.MaxNumbers, edgeComplex())...),
		valuesOf(listsOf(impl.MaxItems, []int64{5, -6, 0, impl.MaxValue, -impl.MaxValue})...),
		valuesOf([]int64{impl.MaxValue + 1}, []int64{0, -impl.MaxValue - 1}),
	)
}
