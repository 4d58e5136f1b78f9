package tests

import (
	"math"
	"reflect"
	"testing"

	"loop.example/g01266/impl"
)

func basinsFunctions() map[string]any {
	return map[string]any{
		"ValidBasin": impl.ValidBasin, "SameBasin": impl.SameBasin, "FlatBasin": impl.FlatBasin, "BlobBasin": impl.BlobBasin,
		"SpinAt": impl.SpinAt, "PutSpin": impl.PutSpin, "AddBasins": impl.AddBasins, "ScaleBasin": impl.ScaleBasin,
		"RollBasin": impl.RollBasin, "MirrorBasin": impl.MirrorBasin, "TotalInBasin": impl.TotalInBasin,
		"SquaresInBasin": impl.SquaresInBasin, "RangeInBasin": impl.RangeInBasin, "EvenOut": impl.EvenOut,
		"LaplaceBasin": impl.LaplaceBasin, "SweepStream": impl.SweepStream, "MissOfStream": impl.MissOfStream,
		"WaveStream": impl.WaveStream, "FlowsInBasin": impl.FlowsInBasin, "SpinAbout": impl.SpinAbout,
		"CarryBasin": impl.CarryBasin, "SpreadBasin": impl.SpreadBasin, "StepBasin": impl.StepBasin, "RunBasin": impl.RunBasin,
	}
}

// edgeBasins has basins at which rules change: small and large ones, with zeros of both signs, far away, without a mean, and with odd numbers and sides.
func edgeBasins() []impl.Basin {
	return []impl.Basin{
		{}, {Spins: []float32{}}, manyCells(3, 3), manyCells(3, 4), manyCells(4, 3), manyCells(impl.MaxSide, impl.MaxSide),
		manyCells(impl.MaxSide+1, 3), manyCells(3, 2), {Wide: 3, High: 3, Spins: make([]float32, 8)},
		{Wide: math.MaxInt64, High: math.MinInt64, Spins: make([]float32, 9)},
		{Wide: 1 << 32, High: 1 << 32},
		basin(3, 3, 0, minusZero, 0, minusZero, minusZero, 0, 1, -1, minusZero),
		withSpin(evenCells(3, 3, 0), 0, 1e38), withSpin(evenCells(3, 3, at(1)), 4, at(signBit+2)), withoutMean()[0], withoutMean()[2],
		withSpin(manyCells(3, 3), 4, at(0xffc00001)), withSpin(manyCells(3, 3), 8, at(infinity)),
	}
}

func edgeBasinValues() map[reflect.Type][]reflect.Value {
	numbers := []float32{minusZero, 1, -0.125, 1000, 3e38, at(0xffc00001)}
	integers := []int64{0, 2, 3, -1, 16, 17, 65, impl.MaxSweeps, impl.MaxSweeps + 1, math.MaxInt64, math.MinInt64}
	return valuesByType(valuesOf(edgeBasins()...), valuesOf(numbers...), valuesOf(integers...))
}

// TestPromise1Basins: every function of chapter 4 returns for all arguments, modifies none, and returns equal results for equal ones.
func TestPromise1Basins(t *testing.T) {
	functions := basinsFunctions()
	wantAllFunctions(t, "l04_basins.go", functions)
	checkCalls(t, functions, edgeBasinValues())
}
