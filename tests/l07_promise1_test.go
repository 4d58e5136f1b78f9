package tests

import (
	"math"
	"reflect"
	"runtime"
	"testing"

	"loop.example/g01266/impl"
)

func treesFunctions() map[string]any {
	return map[string]any{
		"AreTracers": impl.AreTracers, "NoiseTracers": impl.NoiseTracers, "CarryTracers": impl.CarryTracers, "CarryBoth": impl.CarryBoth,
		"RunTracers": impl.RunTracers, "MiddleOfTracers": impl.MiddleOfTracers, "SpreadOfTracers": impl.SpreadOfTracers,
		"NearShare": impl.NearShare, "BoxesOfTracers": impl.BoxesOfTracers, "StretchOf": impl.StretchOf, "MomentsOf": impl.MomentsOf,
		"TreeOf": impl.TreeOf, "DepthOfTree": impl.DepthOfTree, "LeavesOf": impl.LeavesOf, "FarFlow": impl.FarFlow,
		"FlowByTree": impl.FlowByTree, "TermsOf": impl.TermsOf, "FlowsByTree": impl.FlowsByTree, "FlowsShared": impl.FlowsShared,
		"TreeMiss": impl.TreeMiss,
	}
}

// edgeNodes has nodes with any numbers.
func edgeNodes() []impl.Node {
	return []impl.Node{
		{}, {Whirls: []int64{}, Next: []int64{}}, {Centre: complex(minusZero, 1), Half: -1, Depth: math.MinInt64, Spin: 1, Moment: complex(2, minusZero)},
		{Centre: 3e38, Half: at(noNumber), Depth: 7, Whirls: []int64{-1, math.MaxInt64, 3}, Next: []int64{0, 0, -5}, Spin: 3e38, Moment: 3e38},
		{Half: at(infinity), Spin: at(0xffc00001)}, {Moment: complex(0, at(infinity))}, {Centre: complex(at(noNumber), 0)},
	}
}

func edgeListsOfNodes(t *testing.T) [][]impl.Node {
	t.Helper()
	edges := edgeNodes()
	return [][]impl.Node{
		nil, {}, edges, edges[3:4], mustTree(t)(impl.TreeOf(spreadWhirls(14))), make([]impl.Node, 512), make([]impl.Node, 513), nodeList(1, 1, 2, 0, 3, 4),
	}
}

// edgeWhirlLists has lists at which rules of trees change.
func edgeWhirlLists() [][]impl.Whirl {
	same := whirl(1, minusZero, 2)
	return [][]impl.Whirl{
		nil, {}, {same}, {same, same, same, same, whirl(-1, 0, -3)}, spreadWhirls(11), spreadWhirls(impl.MaxWhirls), manyWhirls(impl.MaxWhirls + 1),
		{whirl(3e38, 0, 1), whirl(-3e38, 0, 1)}, {whirl(0, 0, 3e38), whirl(1, 1, 3e38)}, {whirl(at(infinity), 0, at(0xffc00001))},
	}
}

func edgeTreeValues(t *testing.T) map[reflect.Type][]reflect.Value {
	t.Helper()
	numbers := []float32{minusZero, 0.125, -1, 3e38, at(infinity), at(0xffc00001)}
	points := []complex64{0, complex(minusZero, 1), complex(0.5, -3), 3e38, complex(at(infinity), at(0xffc00001))}
	tracers := [][]complex64{nil, {}, {0}, manyTracers(5), manyTracers(impl.MaxTracers), manyTracers(impl.MaxTracers + 1), {1, 3e38, -3e38}, {0, complex(0, at(infinity))}}
	integers := []int64{
		0, 1, -1, impl.MaxWorkers, impl.MaxWorkers + 1, 16, impl.MaxTicks + 1, impl.MaxTracers, impl.MaxTracers + 1,
		1<<31 - 1, math.MaxInt64, math.MinInt64,
	}
	return valuesByType(
		valuesOf(edgeWhirlLists()...), valuesOf(tracers...), valuesOf(numbers...), valuesOf(points...), valuesOf(integers...),
		valuesOf(edgeNodes()...), valuesOf(edgeListsOfNodes(t)...),
	)
}

// TestPromise1Trees: every function of chapter 7 returns for all arguments, modifies none, and returns equal results for equal ones.
func TestPromise1Trees(t *testing.T) {
	functions := treesFunctions()
	wantAllFunctions(t, "l07_trees.go", functions)
	checkCalls(t, functions, edgeTreeValues(t))
}

// TestPromise1SharedWorkers: no worker is left behind by shared flows, be they ones that fail.
func TestPromise1SharedWorkers(t *testing.T) {
	before := runtime.NumGoroutine()
	list, points := spreadWhirls(20), manyTracers(impl.MaxTracers)
	for i := range 200 {
		far := points
		if i%2 == 1 {
			far = append(points[:9:9], 1e30)
		}
		_, ok := impl.FlowsShared(list, far, 0, 1, int64(i%impl.MaxWorkers)+1)
		wantBool(t, "shared flows", ok, i%2 == 0)
	}
	wantNoWorkersSince(t, before)
}
