package tests

import (
	"testing"

	"loop.example/g01266/impl"
)

func numbersFunctions() map[string]any {
	return map[string]any{
		"SameNumber": impl.SameNumber, "IsFinite": impl.IsFinite, "BitsOf": impl.BitsOf, "FromBits": impl.FromBits,
		"NarrowNumber": impl.NarrowNumber, "IsSubnormal": impl.IsSubnormal, "FlushNumber": impl.FlushNumber,
		"SameComplex": impl.SameComplex, "IsFiniteComplex": impl.IsFiniteComplex, "NarrowComplex": impl.NarrowComplex,
		"MulComplex": impl.MulComplex, "ScaleComplex": impl.ScaleComplex, "ConjugateOf": impl.ConjugateOf,
		"PowerOf": impl.PowerOf, "LongOf": impl.LongOf, "QuotientOf": impl.QuotientOf, "PhasorOf": impl.PhasorOf,
		"AngleOf": impl.AngleOf, "SineTurns": impl.SineTurns, "AngleTurns": impl.AngleTurns, "TenthsOf": impl.TenthsOf,
		"RootNumber": impl.RootNumber, "LogNumber": impl.LogNumber, "SumNumbers": impl.SumNumbers,
		"DotNumbers": impl.DotNumbers, "SumComplex": impl.SumComplex, "DotComplex": impl.DotComplex,
		"DotConjugate": impl.DotConjugate, "PowersOf": impl.PowersOf, "AddVectors": impl.AddVectors,
		"LessVectors": impl.LessVectors, "ScaleVector": impl.ScaleVector, "InnerOf": impl.InnerOf, "CrossOf": impl.CrossOf,
		"SizeOfVector": impl.SizeOfVector, "BetweenVectors": impl.BetweenVectors, "SameVector": impl.SameVector,
		"VectorText": impl.VectorText, "ReadVector": impl.ReadVector, "NumbersText": impl.NumbersText,
		"ReadNumbers": impl.ReadNumbers, "ComplexText": impl.ComplexText, "ReadComplex": impl.ReadComplex,
		"IsName": impl.IsName, "Decimal": impl.Decimal, "ReadDecimal": impl.ReadDecimal, "ListText": impl.ListText,
		"ReadList": impl.ReadList, "CheckOf": impl.CheckOf,
	}
}

// TestPromise1Numbers: every function of chapter 1 returns for all arguments, modifies none, and returns equal results for equal ones.
func TestPromise1Numbers(t *testing.T) {
	functions := numbersFunctions()
	wantAllFunctions(t, "l01_numbers.go", functions)
	checkCalls(t, functions, edgeValues())
}
