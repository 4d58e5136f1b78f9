package tests

import (
	"math"
	"reflect"
	"testing"

	"loop.example/g01266/impl"
)

func whirlsFunctions() map[string]any {
	return map[string]any{
		"AreWhirls": impl.AreWhirls, "SameWhirls": impl.SameWhirls, "FlowAt": impl.FlowAt, "StreamAt": impl.StreamAt,
		"FlowsOf": impl.FlowsOf, "StepWhirls": impl.StepWhirls, "HalvedWhirls": impl.HalvedWhirls, "RunWhirls": impl.RunWhirls,
		"TotalSpin": impl.TotalSpin, "ImpulseOf": impl.ImpulseOf, "MomentOfSpin": impl.MomentOfSpin,
		"EnergyOfWhirls": impl.EnergyOfWhirls, "CentreOfWhirls": impl.CentreOfWhirls, "MoveWhirls": impl.MoveWhirls,
		"TurnWhirls": impl.TurnWhirls, "MirrorWhirls": impl.MirrorWhirls, "ScaleSpins": impl.ScaleSpins,
		"PairOfWhirls": impl.PairOfWhirls, "PolygonOfWhirls": impl.PolygonOfWhirls, "PolygonRate": impl.PolygonRate,
		"WallImages": impl.WallImages, "CircleImages": impl.CircleImages, "NearestWhirls": impl.NearestWhirls,
		"MergeNearest": impl.MergeNearest,
	}
}

// edgeWhirls has lists at which rules change: empty and full ones, whirls at one place, spins that are nothing together, and odd numbers.
func edgeWhirls() [][]impl.Whirl {
	lists := [][]impl.Whirl{
		nil, {}, {whirl(0, 0, 1)}, {whirl(1, -2, 3), whirl(-1, 0.5, -3)}, {whirl(2, 1, 1), whirl(2, 1, 2), whirl(0, minusZero, -3)},
		{whirl(3e38, 0, 3e38), whirl(-3e38, 0, 3e38)}, {whirl(1e-30, 0, 1e-30), whirl(at(1), 0, at(signBit+1))},
		manyWhirls(impl.MaxWhirls / 2), manyWhirls(impl.MaxWhirls/2 + 1), manyWhirls(impl.MaxWhirls), manyWhirls(impl.MaxWhirls + 1),
	}
	for _, odd := range []float32{at(infinity), at(signBit + infinity), at(noNumber), at(0xffc00001)} {
		lists = append(lists, []impl.Whirl{whirl(0, 1, 2), whirl(odd, 0, 1)}, []impl.Whirl{whirl(0, odd, 1)}, []impl.Whirl{whirl(0, 0, odd), whirl(1, 0, 1)})
	}
	return lists
}

func edgeWhirlValues() map[reflect.Type][]reflect.Value {
	numbers := []float32{0, minusZero, 1, -1, 0.125, at(1), 1e-30, 3e38, at(infinity), at(signBit + infinity), at(0xffc00001)}
	points := []complex64{0, complex(minusZero, minusZero), complex(2, 1), complex(-3e38, 3e38), complex(at(noNumber), 0), complex(1, at(infinity))}
	integers := []int64{0, 1, 2, -1, impl.MaxWhirls, impl.MaxWhirls + 1, impl.MaxRun, impl.MaxRun + 1, math.MaxInt64, math.MinInt64}
	return valuesByType(valuesOf(edgeWhirls()...), valuesOf(numbers...), valuesOf(points...), valuesOf(integers...))
}

// TestPromise1Whirls: every function of chapter 2 returns for all arguments, modifies none, and returns equal results for equal ones.
func TestPromise1Whirls(t *testing.T) {
	functions := whirlsFunctions()
	wantAllFunctions(t, "l02_whirls.go", functions)
	checkCalls(t, functions, edgeWhirlValues())
}
