package tests

import (
	"math"
	"reflect"
	"testing"

	"loop.example/g01266/impl"
)

func sheetsFunctions() map[string]any {
	return map[string]any{
		"ValidSheet": impl.ValidSheet, "SameSheet": impl.SameSheet, "FlatSheet": impl.FlatSheet, "RingSheet": impl.RingSheet,
		"WaveSheet": impl.WaveSheet, "MoveSheet": impl.MoveSheet, "BackSheet": impl.BackSheet, "CutSheet": impl.CutSheet,
		"JoinSheets": impl.JoinSheets, "SheetLong": impl.SheetLong, "SheetArea": impl.SheetArea, "SheetSpin": impl.SheetSpin,
		"GapsOf": impl.GapsOf, "WidestGap": impl.WidestGap, "BendsOf": impl.BendsOf, "SheetFlow": impl.SheetFlow,
		"SheetFlows": impl.SheetFlows, "StepSheet": impl.StepSheet, "RunSheet": impl.RunSheet, "SplitGap": impl.SplitGap,
		"ThinPoint": impl.ThinPoint, "MendSheet": impl.MendSheet, "AroundPoint": impl.AroundPoint,
		"WhirlsOfSheet": impl.WhirlsOfSheet,
	}
}

// edgeSheets has sheets at which rules change: closed and open ones, with few and many points, at one place, far away, and with odd numbers.
func edgeSheets() []impl.Sheet {
	var list []impl.Sheet
	for _, closed := range []bool{false, true} {
		list = append(list,
			manyPoints(0, closed), manyPoints(1, closed), manyPoints(2, closed), manyPoints(3, closed), manyPoints(impl.MaxWhirls+1, closed),
			manyPoints(impl.MaxSheet, closed), manyPoints(impl.MaxSheet+1, closed),
			closedOrOpen(openSheet(2, 1, 1, 2, 1, 2, 0, minusZero, -3, 2, 1, minusZero), closed),
			closedOrOpen(openSheet(3e38, 0, 3e38, -3e38, 0, 3e38, 0, 0, 1), closed),
			closedOrOpen(openSheet(1e-30, 0, 1e-30, at(1), 0, at(signBit+1)), closed),
			closedOrOpen(openSheet(1, at(0xffc00001), 2, 0, 1, 1), closed),
			closedOrOpen(openSheet(1, 2, at(infinity), 0, 1, 1), closed),
			impl.Sheet{Points: make([]complex64, 3), Spins: make([]float32, 2), Closed: closed},
			impl.Sheet{Points: []complex64{}, Spins: make([]float32, 2), Closed: closed},
		)
	}
	return list
}

func edgeSheetValues() map[reflect.Type][]reflect.Value {
	numbers := []float32{0, minusZero, 1, -1, 0.125, 1e-30, 3e38, at(infinity), at(0xffc00001)}
	points := []complex64{0, complex(minusZero, minusZero), complex(2, 1), complex(-3e38, 3e38), complex(at(noNumber), 0), complex(1, at(infinity))}
	integers := []int64{0, 1, 2, -1, impl.MaxTicks, impl.MaxTicks + 1, impl.MaxSheet - 1, impl.MaxSheet, math.MaxInt64, math.MinInt64}
	return valuesByType(valuesOf(edgeSheets()...), valuesOf(numbers...), valuesOf(points...), valuesOf(integers...))
}

// TestPromise1Sheets: every function of chapter 3 returns for all arguments, modifies none, and returns equal results for equal ones.
func TestPromise1Sheets(t *testing.T) {
	functions := sheetsFunctions()
	wantAllFunctions(t, "l03_sheets.go", functions)
	checkCalls(t, functions, edgeSheetValues())
}
