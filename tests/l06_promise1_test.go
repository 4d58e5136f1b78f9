package tests

import (
	"math"
	"reflect"
	"runtime"
	"testing"

	"loop.example/g01266/impl"
)

func threadsFunctions() map[string]any {
	return map[string]any{
		"IsThread": impl.IsThread, "AreThreads": impl.AreThreads, "SameThread": impl.SameThread, "RingThread": impl.RingThread,
		"WaveThread": impl.WaveThread, "MoveThread": impl.MoveThread, "TurnThread": impl.TurnThread, "ScaleThread": impl.ScaleThread,
		"BackThread": impl.BackThread, "ShiftThread": impl.ShiftThread, "LengthOfThread": impl.LengthOfThread,
		"AreaOfThread": impl.AreaOfThread, "ImpulseOfThread": impl.ImpulseOfThread, "MiddleOfThread": impl.MiddleOfThread,
		"FlowByThreads": impl.FlowByThreads, "StepThreads": impl.StepThreads, "RunThreads": impl.RunThreads,
		"RingSpeed": impl.RingSpeed, "RespaceThread": impl.RespaceThread, "NearestOfThreads": impl.NearestOfThreads,
		"JoinThreads": impl.JoinThreads, "SplitThread": impl.SplitThread, "LinkOfThreads": impl.LinkOfThreads,
	}
}

// edgeThreads has threads at which rules change: with few and many points, segments without length, far ones, and odd numbers.
func edgeThreads() []impl.Thread {
	p := vector(minusZero, 0, 1)
	return []impl.Thread{
		{}, {Points: []impl.Vector{}, Spin: minusZero}, manyCorners(2), manyCorners(3), manyCorners(7), manyCorners(16), manyCorners(impl.MaxThread),
		manyCorners(impl.MaxThread + 1), thread(minusZero, p, p, p), thread(0, impl.Vector{}, p, p, vector(at(1), 1, 0), p, impl.Vector{}),
		thread(3e38, impl.Vector{}, vector(1, 0, 0), vector(0, 1, 0)), thread(1, vector(3e38, 0, 0), vector(-3e38, 0, 3e38), vector(0, 3e38, 0)),
		thread(1, vector(1e20, 0, 0), vector(-5e19, 9e19, 0), vector(-5e19, -9e19, 0)), thread(at(0xffc00001), p, p, p), thread(1, p, vector(at(0xffc00001), 0, 0), p),
		thread(1, p, p, vector(0, at(infinity), 0)),
	}
}

func edgeListsOfThreads() [][]impl.Thread {
	edges := edgeThreads()
	lists := [][]impl.Thread{nil, {}, manyThreads(2), manyThreads(impl.MaxThreads), manyThreads(impl.MaxThreads + 1), {manyCorners(9), {}}}
	for _, a := range edges[5:] {
		lists = append(lists, []impl.Thread{a})
	}
	return lists
}

func edgeThreadValues() map[reflect.Type][]reflect.Value {
	numbers := []float32{minusZero, 0.125, -1, at(1), 3e38, at(infinity), at(0xffc00001)}
	points := []impl.Vector{{}, vector(minusZero, 1, -2), vector(0.5, 0.5, 0), vector(3e38, -3e38, 0), vector(at(infinity), 0, 0), vector(0, 0, at(0xffc00001))}
	integers := []int64{0, 2, 3, -1, 12, 13, impl.MaxThread, impl.MaxThread + 1, math.MaxInt64, math.MinInt64}
	return valuesByType(
		valuesOf(edgeThreads()...), valuesOf(edgeListsOfThreads()...), valuesOf(numbers...), valuesOf(points...), valuesOf(integers...),
	)
}

// TestPromise1Threads: every function of chapter 6 returns for all arguments, modifies none, and returns equal results for equal ones.
func TestPromise1Threads(t *testing.T) {
	functions := threadsFunctions()
	wantAllFunctions(t, "l06_threads.go", functions)
	checkCalls(t, functions, edgeThreadValues())
}

// TestPromise1Workers: no worker is left behind by a step, be it one that fails.
func TestPromise1Workers(t *testing.T) {
	before := runtime.NumGoroutine()
	list := manyThreads(impl.MaxThreads)
	for i := range 200 {
		tick := float32(0.1)
		if i%2 == 1 {
			tick = 3e38
		}
		_, ok := impl.StepThreads(list, 0.5, tick)
		wantBool(t, "a step", ok, i%2 == 0)
	}
	wantNoWorkersSince(t, before)
}
