package tests

import (
	"math"
	"reflect"
	"testing"

	"loop.example/g01266/impl"
)

func platesFunctions() map[string]any {
	return map[string]any{
		"ValidPlate": impl.ValidPlate, "SamePlate": impl.SamePlate, "FlatPlate": impl.FlatPlate, "ArcPlate": impl.ArcPlate,
		"MovePlate": impl.MovePlate, "TurnPlate": impl.TurnPlate, "PlateLong": impl.PlateLong, "SeatsOf": impl.SeatsOf,
		"ChecksOf": impl.ChecksOf, "NormalsOf": impl.NormalsOf, "SquareOfPlate": impl.SquareOfPlate, "NeedsOf": impl.NeedsOf,
		"SolveSquare": impl.SolveSquare, "SpinsOfPlate": impl.SpinsOfPlate, "WorstThrough": impl.WorstThrough,
		"ForceOnPlate": impl.ForceOnPlate, "PressuresOf": impl.PressuresOf, "FlowByPlate": impl.FlowByPlate,
		"NewFlight": impl.NewFlight, "ValidFlight": impl.ValidFlight, "SameFlight": impl.SameFlight, "StepFlight": impl.StepFlight,
		"RunFlight": impl.RunFlight, "AllSpin": impl.AllSpin,
	}
}

// edgePlates has plates at which rules change: with few and many corners, panels without length, far ones, near ones, and odd numbers.
func edgePlates() []impl.Plate {
	return []impl.Plate{
		{}, {Corners: []complex64{}}, manyPanels(0), manyPanels(1), manyPanels(2), manyPanels(impl.MaxPanels), manyPanels(impl.MaxPanels + 1),
		plate(-1, 0, 1, 0), plate(0, 0, 4, 0, 0, 0), plate(0, minusZero, minusZero, 0), plate(0, 0, at(1), 0), plate(0, 0, 1e-21, 0),
		plate(3e38, 0, -3e38, 0), plate(3e38, 1, 2e38, -1, 3e38, -1), plate(0, 0, at(0xffc00001), 1), plate(0, 0, 1, at(infinity)),
	}
}

// edgeWakes has lists of wakes, of which one is at a seat and one at a check of edgePlates.
func edgeWakes() [][]impl.Whirl {
	return [][]impl.Whirl{
		nil, {}, {whirl(-0.5, 0, 1)}, {whirl(0.5, 0, 2), whirl(0.5, minusZero, -2)}, manyWakes(impl.MaxWakes), manyWakes(impl.MaxWakes + 1),
		{whirl(3e38, 0, 3e38)}, {whirl(0, at(0xffc00001), 1)}, {whirl(0, 0, at(infinity))},
	}
}

func edgeFlights() []impl.Flight {
	var list []impl.Flight
	for _, wakes := range edgeWakes() {
		list = append(list, impl.Flight{Plate: plate(-1, 0, 1, 0), Wakes: wakes, Spin: 0.5})
	}
	return append(list, impl.Flight{}, manyFlights(impl.MaxPanels, impl.MaxWakes-1), manyFlights(impl.MaxPanels+1, 2), impl.Flight{Plate: manyPanels(2), Spin: at(0xffc00001)})
}

// edgeSquares has squares and lists that belong together, and others.
func edgeSquares() [][]float32 {
	large := make([]float32, impl.MaxPanels*impl.MaxPanels)
	for i := range large {
		large[i] = float32(i*i%17) - 4
	}
	return [][]float32{
		nil, {}, {2}, {at(infinity)}, {3, minusZero}, {0, 2, 4, 0}, {1, 3e38, -1, 3e38}, {1, 2, at(0xffc00001), 4},
		large[:impl.MaxPanels], large[:impl.MaxPanels+1], large, append(large, 1),
	}
}

func edgePlateValues() map[reflect.Type][]reflect.Value {
	numbers := []float32{0, minusZero, 0.125, -1, at(1), 3e38, at(0xffc00001)}
	points := []complex64{0, complex(minusZero, 1), complex(0.5, -2), complex(3e38, -3e38), complex(at(infinity), 0), complex(0, at(0xffc00001))}
	integers := []int64{0, 1, 2, -1, impl.MaxPanels, impl.MaxPanels + 1, impl.MaxTicks, impl.MaxTicks + 1, math.MaxInt64, math.MinInt64}
	return valuesByType(
		valuesOf(edgePlates()...), valuesOf(edgeFlights()...), valuesOf(edgeWakes()...), valuesOf(edgeSquares()...),
		valuesOf(numbers...), valuesOf(points...), valuesOf(integers...),
	)
}

// TestPromise1Plates: every function of chapter 5 returns for all arguments, modifies none, and returns equal results for equal ones.
func TestPromise1Plates(t *testing.T) {
	functions := platesFunctions()
	wantAllFunctions(t, "l05_plates.go", functions)
	checkCalls(t, functions, edgePlateValues())
}
