package tests

import (
	"fmt"
	"math"
	"testing"

	"loop.example/g01266/impl"
)

func TestConstantsOfChapter7(t *testing.T) {
	if got := fmt.Sprint(impl.MaxTracers, impl.LeafSize, impl.MaxDepth, impl.MaxWorkers); got != "64 3 6 8" {
		t.Errorf("constants: got %s", got)
	}
}

// TestExamplesOfChapter7 asserts every example at the end of chapter 7.
func TestExamplesOfChapter7(t *testing.T) {
	wantTold(t, "two whirls around 1", toldMoments(impl.MomentsOf([]impl.Whirl{whirl(0, 0, 1), whirl(2, 0, 3)}, 1)), "40800000 40000000 00000000")
	for _, list := range [][]impl.Whirl{manyWhirls(3), {whirl(0, 0, 1), whirl(9, 0, 1), whirl(0, -9, 1)}, {whirl(1, 1, 1), whirl(1, 1, 2), whirl(1, 1, 3)}} {
		nodes := mustTree(t)(impl.TreeOf(list))
		wantBool(t, "a tree of three whirls is one node", len(nodes) == 1 && len(nodes[0].Next) == 0, true)
		wantIntegers(t, "which is a leaf", 0)(impl.LeavesOf(nodes))
	}
}

func TestTreeRows(t *testing.T) {
	rows, calls := treeRows(), treeCalls()
	if len(rows) != len(calls) {
		t.Fatalf("%d functions with rows, %d that can be called", len(rows), len(calls))
	}
	for name, call := range calls {
		wantToldRows(t, name, rows[name], call)
	}
}

// withTracers has the functions that require tracers, or as many points, with other arguments that are valid.
func withTracers() map[string]func(list []complex64) string {
	whirls := manyWhirls(5)
	return map[string]func(list []complex64) string{
		"CarryTracers":    func(l []complex64) string { return toldFlows(impl.CarryTracers(whirls, l, 0.5, 0.1)) },
		"CarryTracers 0":  func(l []complex64) string { return toldFlows(impl.CarryTracers(nil, l, 0.5, 0.1)) },
		"CarryBoth":       func(l []complex64) string { return toldBoth(impl.CarryBoth(whirls, l, 0.5, 0.1)) },
		"CarryBoth 0":     func(l []complex64) string { return toldBoth(impl.CarryBoth(nil, l, 0.5, 0.1)) },
		"RunTracers":      func(l []complex64) string { return toldBoth(impl.RunTracers(whirls, l, 0.5, 0.1, 2)) },
		"RunTracers 0":    func(l []complex64) string { return toldBoth(impl.RunTracers(whirls, l, 0.5, 0.1, 0)) },
		"MiddleOfTracers": func(l []complex64) string { return toldComplex(impl.MiddleOfTracers(l)) },
		"SpreadOfTracers": func(l []complex64) string { return toldNumber(impl.SpreadOfTracers(l)) },
		"NearShare":       func(l []complex64) string { return toldNumber(impl.NearShare(l, 0, 1)) },
		"BoxesOfTracers":  func(l []complex64) string { return toldIntegers(impl.BoxesOfTracers(l, 1, 1)) },
		"FlowsByTree":     func(l []complex64) string { return toldFlows(impl.FlowsByTree(whirls, l, 0.5, 1)) },
		"FlowsByTree 0":   func(l []complex64) string { return toldFlows(impl.FlowsByTree(nil, l, 0.5, 1)) },
		"FlowsShared":     func(l []complex64) string { return toldFlows(impl.FlowsShared(whirls, l, 0.5, 1, 2)) },
		"FlowsShared 0":   func(l []complex64) string { return toldFlows(impl.FlowsShared(nil, l, 0.5, 1, 2)) },
	}
}

// TestAreTracers: there are at most MaxTracers of them, with finite parts, and all other lists make functions fail.
func TestAreTracers(t *testing.T) {
	for _, list := range [][]complex64{nil, {}, {complex(minusZero, at(1))}, {complex(3.4e38, -3.4e38)}, manyTracers(impl.MaxTracers)} {
		wantBool(t, "tracers", impl.AreTracers(list), true)
	}
	bad := [][]complex64{manyTracers(impl.MaxTracers + 1), make([]complex64, 5000)}
	for _, odd := range oddTicks() {
		for _, i := range []int{0, 3, 6} {
			x, y := manyTracers(7), manyTracers(7)
			x[i], y[i] = complex(odd, 1), complex(1, odd)
			bad = append(bad, x, y)
		}
	}
	for name, call := range withTracers() {
		for _, count := range []int{1, 2, impl.MaxTracers} {
			if got := call(manyTracers(count)); got == "no" {
				t.Errorf("%s fails with %d tracers", name, count)
			}
		}
		for i, list := range bad {
			wantBool(t, fmt.Sprint("list ", i), impl.AreTracers(list), false)
			wantTold(t, fmt.Sprint(name, " of list ", i), call(list), "no")
		}
	}
}

// TestNoTracers: what is told of all tracers fails for none, and all else succeeds.
func TestNoTracers(t *testing.T) {
	list := manyWhirls(9)
	for _, none := range [][]complex64{nil, {}} {
		wantTold(t, "the middle", toldComplex(impl.MiddleOfTracers(none)), "no")
		wantTold(t, "the spread", toldNumber(impl.SpreadOfTracers(none)), "no")
		wantTold(t, "the share", toldNumber(impl.NearShare(none, 0, 1)), "no")
		wantIntegers(t, "boxes", 0, 0, 0, 0)(impl.BoxesOfTracers(none, 1, 2))
		wantTracers(t, "carried")(impl.CarryTracers(list, none, 0.5, 0.1))
		wantTold(t, "carried with whirls", toldBoth(impl.CarryBoth(list, none, 0.5, 0.1)), toldWhirls(impl.StepWhirls(list, 0.5, 0.1)))
		wantTold(t, "in a run", toldBoth(impl.RunTracers(list, none, 0.5, 0.1, 7)), toldWhirls(impl.RunWhirls(list, 0.5, 0.1, 7)))
		wantTold(t, "without whirls", toldBoth(impl.RunTracers(nil, none, 0, 1, impl.MaxTicks)), "")
	}
	// Without tracers, too, whirls must make a step.
	near := []impl.Whirl{whirl(0, 0, 3e38), whirl(1e-10, 0, 3e38)}
	wantTold(t, "whirls that fail", toldBoth(impl.CarryBoth(near, nil, 0, 1)), "no")
	wantTracers(t, "whirls that stay")(impl.CarryTracers(near, nil, 0, 1))
}

// drawnNumbers returns drawn numbers without signs or sizes, and the seed then.
func drawnNumbers(count int, seed uint64) ([]int64, int64) {
	var list []int64
	for range count {
		seed = (seed*1103515245 + 12345) & (1<<31 - 1)
		list = append(list, int64(seed>>16)-16384)
	}
	return list, int64(seed)
}

func TestNoise(t *testing.T) {
	for _, seed := range []int64{0, 1, 12345, 65535, 65536, 1<<31 - 2, 1<<31 - 1} {
		for _, count := range []int64{0, 1, 2, 33, impl.MaxTracers} {
			for _, size := range []float32{0, minusZero, 1, 0.3, at(1), 3e38} {
				numbers, behind := drawnNumbers(int(2*count), uint64(seed))
				var want []complex64
				for i := 0; i < len(numbers); i += 2 {
					// The quotients are exact, so that just the products are rounded.
					x, y := float32(float64(numbers[i])/16384*float64(size)), float32(float64(numbers[i+1])/16384*float64(size))
					want = append(want, complex(x, y))
				}
				what := fmt.Sprint(count, " of the seed ", seed, " and the size ", size)
				wantTold(t, what, toldNoise(impl.NoiseTracers(count, size, seed)), toldNoise(want, behind, true))
			}
		}
	}
	for _, seed := range []int64{-1, 1 << 31, math.MaxInt64, math.MinInt64, 1<<32 + 5, -(1 << 31)} {
		wantTold(t, fmt.Sprint("the seed ", seed), toldNoise(impl.NoiseTracers(1, 1, seed)), "no")
		wantTold(t, fmt.Sprint("none of the seed ", seed), toldNoise(impl.NoiseTracers(0, 1, seed)), "no")
	}
	for _, count := range []int64{-1, impl.MaxTracers + 1, math.MaxInt64, math.MinInt64, 1 << 32} {
		wantTold(t, fmt.Sprint("the count ", count), toldNoise(impl.NoiseTracers(count, 1, 1)), "no")
	}
	for _, size := range oddSizes() {
		wantTold(t, fmt.Sprint("the size ", size), toldNoise(impl.NoiseTracers(1, size, 1)), "no")
		wantTold(t, fmt.Sprint("none of the size ", size), toldNoise(impl.NoiseTracers(0, size, 1)), "no")
	}
}

// TestNoiseGoesOn: the seed behind some tracers draws those that come behind them.
func TestNoiseGoesOn(t *testing.T) {
	all, last, _ := impl.NoiseTracers(40, 2, 99)
	first, seed, _ := impl.NoiseTracers(15, 2, 99)
	second, end, _ := impl.NoiseTracers(25, 2, seed)
	wantTracers(t, "in two parts", all...)(append(first, second...), true)
	wantBool(t, "the last seed", end == last, true)
	_, same, ok := impl.NoiseTracers(0, 2, 99)
	wantBool(t, "the seed stays for none", ok && same == 99, true)
}

// movedBy moves a point for a tick by the flow at another one.
func movedBy(t *testing.T, list []impl.Whirl, p, other complex64, core, tick float32) complex64 {
	t.Helper()
	return p + impl.ScaleComplex(mustComplex(t)(impl.FlowAt(list, other, core)), tick)
}

// carriedTold carries tracers by whirls, and by what these are halfway.
func carriedTold(t *testing.T, list, halfway []impl.Whirl, tracers []complex64, core, tick float32) []complex64 {
	t.Helper()
	var carried []complex64
	for _, p := range tracers {
		h := movedBy(t, list, p, p, core, tick/2)
		carried = append(carried, movedBy(t, halfway, p, h, core, tick))
	}
	return carried
}

func TestCarriedTracers(t *testing.T) {
	for _, list := range [][]impl.Whirl{nil, {whirl(0, 0, turn)}, manyWhirls(5), manyWhirls(impl.MaxWhirls)} {
		for _, tracers := range [][]complex64{nil, {1}, manyTracers(9), manyTracers(impl.MaxTracers)} {
			for _, core := range []float32{0, 0.25, 3} {
				for _, tick := range []float32{0, 0.1, -0.5, 2} {
					what := fmt.Sprint(len(list), " whirls, ", len(tracers), " tracers, the core ", core, " and the tick ", tick)
					want := carriedTold(t, list, list, tracers, core, tick)
					wantTracers(t, what, want...)(impl.CarryTracers(list, tracers, core, tick))
					halfway := append([]impl.Whirl{}, list...)
					flows, _ := impl.FlowsOf(list, core)
					for i, flow := range flows {
						halfway[i].At += impl.ScaleComplex(flow, tick/2)
					}
					whirls := mustWhirls(t)(impl.StepWhirls(list, core, tick))
					want = carriedTold(t, list, halfway, tracers, core, tick)
					wantTold(t, what+", both", toldBoth(impl.CarryBoth(list, tracers, core, tick)), toldBoth(whirls, want, true))
				}
			}
		}
	}
}

// TestTracersAtWhirls: a whirl at a tracer gives it nothing, and tracers at one place go one way.
func TestTracersAtWhirls(t *testing.T) {
	alone := []impl.Whirl{whirl(1, 2, 5)}
	for _, core := range []float32{0, 1} {
		wantTracers(t, "at the whirl", complex(1, 2))(impl.CarryTracers(alone, []complex64{complex(1, 2)}, core, 3))
		wantTold(t, "both", toldBoth(impl.CarryBoth(alone, []complex64{complex(1, 2)}, core, 3)), wordsOf([]float32{1, 2, 5, 1, 2}))
	}
	// What is at a whirl goes as the whirl does, without a core.
	list := manyWhirls(6)
	for i, w := range list {
		whirls, tracers, ok := impl.RunTracers(list, []complex64{w.At}, 0, 0.05, 8)
		wantBool(t, "a run", ok && tracers[0] == whirls[i].At && tracers[0] != w.At, true)
	}
	p := complex64(complex(0.3, -0.7))
	tracers := mustTracers(t)(impl.CarryTracers(list, []complex64{p, 1, p, p}, 0.1, 0.5))
	wantBool(t, "at one place", tracers[0] == tracers[2] && tracers[0] == tracers[3] && tracers[0] != p, true)
}

// TestTracersGoAround: a tracer goes around a whirl that stays, nearly.
func TestTracersGoAround(t *testing.T) {
	list := []impl.Whirl{whirl(3, -1, turn)}
	tracers, around := []complex64{complex(5, -1)}, complex64(2)
	for range 100 {
		tracers = mustTracers(t)(impl.CarryTracers(list, tracers, 0, 0.04))
	}
	// The flow at the distance 2 is 1/2, which are a quarter of a radian for each unit of time.
	want := complex(3, -1) + complex64(complex(math.Cos(1), math.Sin(1)))*around
	wantNear(t, "behind 4 units", tracers[0], want, 1e-4)
	back := tracers
	for range 100 {
		back = mustTracers(t)(impl.CarryTracers(list, back, 0, -0.04))
	}
	wantNear(t, "and back", back[0], complex(5, -1), 1e-4)
}

func TestOddCarryingArguments(t *testing.T) {
	for _, list := range [][]impl.Whirl{nil, {whirl(1, 2, 3)}, manyWhirls(4)} {
		for _, tracers := range [][]complex64{nil, {7}, manyTracers(3)} {
			for _, odd := range oddSizes() {
				wantNoTracers(t, "a core")(impl.CarryTracers(list, tracers, odd, 0.1))
				wantTold(t, "a core, both", toldBoth(impl.CarryBoth(list, tracers, odd, 0.1)), "no")
				wantTold(t, "a core, run", toldBoth(impl.RunTracers(list, tracers, odd, 0.1, 2)), "no")
				wantTold(t, "a core, no steps", toldBoth(impl.RunTracers(list, tracers, odd, 0.1, 0)), "no")
			}
			for _, odd := range oddTicks() {
				wantNoTracers(t, "a tick")(impl.CarryTracers(list, tracers, 1, odd))
				wantTold(t, "a tick, both", toldBoth(impl.CarryBoth(list, tracers, 1, odd)), "no")
				wantTold(t, "a tick, run", toldBoth(impl.RunTracers(list, tracers, 1, odd, 2)), "no")
				wantTold(t, "a tick, no steps", toldBoth(impl.RunTracers(list, tracers, 1, odd, 0)), "no")
			}
			for _, steps := range []int64{-1, impl.MaxTicks + 1, math.MaxInt64, math.MinInt64, 1 << 32} {
				wantTold(t, fmt.Sprint(steps, " steps"), toldBoth(impl.RunTracers(list, tracers, 1, 0.01, steps)), "no")
			}
		}
	}
}

// TestCarryingThatIsNotFinite: tracers fail at their places, halfway and at the end.
func TestCarryingThatIsNotFinite(t *testing.T) {
	dense := []impl.Whirl{whirl(0, 0, 3e38)}
	wantNoTracers(t, "the flow at a tracer")(impl.CarryTracers(dense, []complex64{5, 1e-10}, 0, 0))
	wantNoTracers(t, "a way to a whirl")(impl.CarryTracers([]impl.Whirl{whirl(3e38, 0, 1)}, []complex64{-3e38}, 0, 0))
	one := []impl.Whirl{whirl(0, 0, turn)}
	wantNoTracers(t, "a place halfway")(impl.CarryTracers([]impl.Whirl{whirl(0, 0, 4*turn)}, []complex64{5, 1}, 0, 3e38))
	// Far off, the second whirl moves a tracer out of the first one, where the flow is great then.
	both := []impl.Whirl{whirl(0, 0, 0.00628), whirl(-1, 0, 1.26e-41)}
	h := movedBy(t, both, 0, 0, 0, 5e21)
	flow := mustComplex(t)(impl.FlowAt(both, h, 0))
	wantBool(t, "the flow halfway", impl.LongOf(flow) > 1e16 && impl.LongOf(h) > 0, true)
	wantNoTracers(t, "the end")(impl.CarryTracers(both, []complex64{0}, 0, 1e22))
	wantTracers(t, "very far behind a step", complex(1, 0))(impl.CarryTracers(one, []complex64{1}, 0, 3e38))
	// Halfway, the first whirl is no longer so near to the tracer.
	leaving := []impl.Whirl{whirl(1e-20, 0, 1), whirl(1, 0, 1)}
	wantBool(t, "whirls that leave", toldWhirls(impl.StepWhirls(leaving, 0, 1)) != "no", true)
	wantTold(t, "the flow of whirls that leave", toldBoth(impl.CarryBoth(leaving, []complex64{0}, 0, 1)), "no")
	wantTold(t, "both", toldBoth(impl.CarryBoth(dense, []complex64{1e-10}, 0, 0)), "no")
	wantTold(t, "a run", toldBoth(impl.RunTracers(dense, []complex64{1e-10}, 0, 0, 1)), "no")
	wantTold(t, "no steps", toldBoth(impl.RunTracers(dense, []complex64{1e-10}, 0, 0, 0)), toldBoth(dense, []complex64{1e-10}, true))
}

func TestTracerRuns(t *testing.T) {
	for _, core := range []float32{0, 0.5} {
		for _, tick := range []float32{0.05, -0.1} {
			list, tracers := manyWhirls(7), manyTracers(8)
			for steps := int64(0); steps <= impl.MaxTicks; steps++ {
				gotWhirls, got, ok := impl.RunTracers(manyWhirls(7), manyTracers(8), core, tick, steps)
				wantTold(t, fmt.Sprint(steps, " steps"), toldBoth(gotWhirls, got, ok), toldBoth(list, tracers, true))
				list, tracers, _ = impl.CarryBoth(list, tracers, core, tick)
			}
		}
	}
	still := []complex64{complex(1, minusZero), complex(minusZero, -2)}
	wantTold(t, "copies of no steps", toldBoth(impl.RunTracers(nil, still, 0, 1, 0)), toldFlows(still, true))
}

func TestMiddlesOfTracers(t *testing.T) {
	middle := func(list ...complex64) string { return toldComplex(impl.MiddleOfTracers(list)) }
	wantTold(t, "one", middle(complex(3, -2)), wordsOf([]float32{3, -2}))
	wantTold(t, "zeros with signs", middle(complex(minusZero, minusZero)), "00000000 00000000")
	wantTold(t, "three", middle(1, complex(0, 1), complex(0, 1)), wordsOf([]float32{float32(1) / 3, float32(2) / 3}))
	wantTold(t, "from left to right", middle(1, 1e8, -1e8), "00000000 00000000")
	wantTold(t, "the great ones first", middle(1e8, -1e8, 1), wordsOf([]float32{float32(1) / 3, 0}))
	wantTold(t, "a sum that is not finite", middle(3e38, 3e38, -3e38), "no")
	wantTold(t, "an imaginary one", middle(complex(0, -3e38), complex(0, -3e38)), "no")
	wantTold(t, "the greatest sum", middle(3e38, complex(-3e38, 3.4e38)), wordsOf([]float32{0, 1.7e38}))
	wantTold(t, "a middle of nearly nothing", middle(complex(at(1), at(signBit+1)), 0), "00000000 80000000")
}

// TestMiddlesAreQuotients: sums are divided, as nothing else is rounded in the same way for all counts.
func TestMiddlesAreQuotients(t *testing.T) {
	for count := 1; count <= impl.MaxTracers; count++ {
		var list []complex64
		var x, y float32
		for i := range count {
			p := complex(float32(i)*0.37-3, float32(i*i)*0.11+1)
			x, y, list = x+real(p), y+imag(p), append(list, p)
		}
		n := float32(count)
		wantTold(t, fmt.Sprint("the middle of ", count), toldComplex(impl.MiddleOfTracers(list)), wordsOf([]float32{x / n, y / n}))
		for near := range count + 1 {
			what := fmt.Sprint(near, " near ones of ", count)
			wantTold(t, what, toldNumber(impl.NearShare(manyOnLine(count), 0, float32(near))), wordsOf([]float32{float32(near) / n}))
		}
	}
}

// manyOnLine has tracers at 1, 2 and so on.
func manyOnLine(count int) []complex64 {
	var list []complex64
	for i := range count {
		list = append(list, complex(0, float32(i+1)))
	}
	return list
}

func TestSpreadsOfTracers(t *testing.T) {
	spread := func(list ...complex64) string { return toldNumber(impl.SpreadOfTracers(list)) }
	wantTold(t, "one", spread(complex(3, -2)), "00000000")
	wantTold(t, "at one place", spread(complex(3, -2), complex(3, -2), complex(3, -2)), "00000000")
	wantTold(t, "around 0", spread(3, -3, complex(0, 3), complex(0, -3)), wordsOf([]float32{3}))
	wantTold(t, "two", spread(complex(1, 1), complex(7, 9)), wordsOf([]float32{5}))
	// The root is that of 4/2, not of 4.
	wantTold(t, "beside the axis", spread(complex(1, 0), complex(1+2*math.Sqrt2, 0)), wordsOf([]float32{1.4142135}))
	wantTold(t, "a power that is not finite", spread(1e20, -1e20), "no")
	wantTold(t, "a sum of powers that is not", spread(complex(1.8e19, 0), complex(-1.8e19, 0), complex(0, 1e19), complex(0, -1e19)), "no")
	wantTold(t, "a great spread", spread(complex(1e19, 0), complex(-1e19, 0)), wordsOf([]float32{1e19}))
	wantTold(t, "a middle that is not finite", spread(3e38, 3e38), "no")
	wantTold(t, "powers that are 0", spread(complex(1e-30, 0), complex(-1e-30, 0)), "00000000")
}

func TestNearShares(t *testing.T) {
	list := []complex64{0, complex(3, 4), complex(0, -5), complex(6, 8), 0}
	for _, row := range []struct{ radius, share float32 }{
		{5, 0.8}, {at(0x409fffff), 0.4}, {10, 1}, {9.9, 0.8}, {0, 0.4}, {minusZero, 0.4}, {-1, 0}, {at(signBit + 1), 0},
		{at(noNumber), 0}, {at(0xffc00001), 0}, {at(infinity), 1}, {at(signBit + infinity), 0}, {3e38, 1},
	} {
		wantTold(t, fmt.Sprint("the radius ", row.radius), toldNumber(impl.NearShare(list, 0, row.radius)), wordsOf([]float32{row.share}))
	}
	wantTold(t, "around another point", toldNumber(impl.NearShare(list, complex(6, 8), 5)), wordsOf([]float32{0.4}))
	wantTold(t, "one of three", toldNumber(impl.NearShare([]complex64{1, 2, 3}, 0, 1)), wordsOf([]float32{float32(1) / 3}))
	far := []complex64{3e38, 0}
	wantTold(t, "too far to be told", toldNumber(impl.NearShare(far, -3e38, at(infinity))), wordsOf([]float32{1}))
	wantTold(t, "not near then", toldNumber(impl.NearShare(far, -3e38, 3.4e38)), wordsOf([]float32{0.5}))
	for _, odd := range oddTicks() {
		wantTold(t, "an odd real part", toldNumber(impl.NearShare(list, complex(odd, 0), 1)), "no")
		wantTold(t, "an odd imaginary part", toldNumber(impl.NearShare(list, complex(0, odd), 1)), "no")
	}
}

func TestBoxes(t *testing.T) {
	boxes := func(size float32, side int64, list ...complex64) string {
		return toldIntegers(impl.BoxesOfTracers(list, size, side))
	}
	count := func(list ...int64) string { return toldIntegers(list, true) }
	wantTold(t, "row by row", boxes(1, 2, complex(0.5, -0.5), complex(-0.5, 0.5), complex(-0.5, 0.25)), count(0, 1, 2, 0))
	wantTold(t, "edges between boxes", boxes(1, 2, 0, complex(minusZero, -0.5), complex(-0.5, minusZero)), count(0, 1, 1, 1))
	wantTold(t, "corners of all boxes", boxes(1, 2, complex(-1, -1), complex(1, 1), complex(-1, 1), complex(1, -1)), count(1, 0, 0, 0))
	wantTold(t, "edges of all boxes", boxes(1, 2, -1, 1, complex(0, -1), complex(0, 1)), count(0, 1, 1, 0))
	wantTold(t, "beyond", boxes(1, 2, complex(at(0xbf800001), 0), complex(0, at(0xbf800001)), 2, -2, complex(0, 1.5), complex(9, 9)), count(0, 0, 0, 0))
	// The sum with the size is rounded to twice the size.
	wantTold(t, "nearly at the edge", boxes(1, 2, complex(at(0x3f7fffff), 0), complex(at(0x3f7ffffe), 0)), count(0, 0, 0, 1))
	wantTold(t, "side 1", boxes(2, 1, 0, 1, -2, complex(1.5, -1.5), 2, complex(0, 2)), count(4))
	wantTold(t, "side 3", boxes(3, 3, -3, -1, 1, complex(0, 2), complex(2, 2), complex(-2, -2)), count(1, 0, 0, 1, 1, 1, 0, 1, 1))
	all := mustIntegers(t)(impl.BoxesOfTracers(manyTracers(impl.MaxTracers), 16, 16))
	sum := int64(0)
	for _, n := range all {
		sum += n
	}
	wantBool(t, "side 16", len(all) == 256 && sum == impl.MaxTracers, true)
	wantTold(t, "the least size", boxes(at(1), 2, 0, complex(at(1), 0), complex(at(signBit+1), at(signBit+1))), count(1, 0, 0, 1))
	// Twice the size is endless here, and no share of it is more than nothing.
	wantTold(t, "a size that cannot be twice", boxes(3e38, 2, 0, complex(-3e38, 2e37)), count(2, 0, 0, 0))
	wantTold(t, "what is no number is in no box", boxes(3e38, 1, complex(3e38, 0), complex(0, 3e38)), count(0))
	wantTold(t, "endless shares", boxes(1e-30, 2, 3e38, -3e38, complex(0, 3e38)), count(0, 0, 0, 0))
	for _, side := range []int64{0, -1, 17, math.MaxInt64, math.MinInt64, 1 << 32, 1<<32 + 1} {
		wantTold(t, fmt.Sprint("the side ", side), boxes(1, side, 0), "no")
		wantTold(t, fmt.Sprint("none with the side ", side), boxes(1, side), "no")
	}
	for _, size := range oddLengths() {
		wantTold(t, fmt.Sprint("the size ", size), boxes(size, 2, 0), "no")
	}
}

// stretchTold tells how fast two tracers part by the run of both.
func stretchTold(t *testing.T, list []impl.Whirl, p, apart complex64, core, tick float32, steps int64) string {
	t.Helper()
	_, ends, ok := impl.RunTracers(list, []complex64{p, p + apart}, core, tick, steps)
	wantBool(t, "a run", ok, true)
	grown := impl.LongOf(ends[1]-ends[0]) / impl.LongOf(apart)
	return wordsOf([]float32{impl.LogNumber(grown) / float32(float32(steps)*tick)})
}

func TestStretches(t *testing.T) {
	list := manyWhirls(5)
	for _, steps := range []int64{1, 2, 7, impl.MaxTicks} {
		for _, tick := range []float32{0.01, 0.3} {
			for _, apart := range []complex64{0.001, complex(0, -0.5), complex(-2, 1)} {
				what := fmt.Sprint(steps, " steps of ", tick, ", ", apart, " apart")
				want := stretchTold(t, list, complex(0.2, 0.4), apart, 0.5, tick, steps)
				wantTold(t, what, toldNumber(impl.StretchOf(list, complex(0.2, 0.4), apart, 0.5, tick, steps)), want)
			}
		}
	}
	wantTold(t, "no whirls", toldNumber(impl.StretchOf(nil, 3, complex(0, -2), 0, 0.25, 32)), "00000000")
	wantTold(t, "a time that is not finite", toldNumber(impl.StretchOf(nil, 3, 1, 0, 3e38, 2)), "00000000")
	// With a core, what is near the middle of a whirl turns, and parts only as the steps are not exact.
	turning := mustNumber(t)(impl.StretchOf([]impl.Whirl{whirl(0, 0, turn)}, 0, 0.001, 1, 0.01, 10))
	wantLess(t, "what turns does not part", math.Abs(float64(turning)), 1e-3)
	parting := mustNumber(t)(impl.StretchOf([]impl.Whirl{whirl(-1, 0, turn), whirl(1, 0, turn)}, 0, complex(0.001, -0.001), 0, 0.01, 10))
	wantLess(t, "what is between two whirls parts", -float64(parting), -0.5)
}

func TestOddStretches(t *testing.T) {
	list := manyWhirls(3)
	stretch := func(p, apart complex64, core, tick float32, steps int64) string {
		return toldNumber(impl.StretchOf(list, p, apart, core, tick, steps))
	}
	for _, apart := range []complex64{0, complex(minusZero, 0), complex(minusZero, minusZero)} {
		wantTold(t, "at one place", stretch(1, apart, 1, 0.1, 1), "no")
	}
	wantTold(t, "at one place, as the sum is rounded", stretch(1e8, 1, 1, 0.1, 1), "no")
	wantTold(t, "the least distance", toldNumber(impl.StretchOf(nil, 0, complex(0, at(1)), 0, 1, 1)), "00000000")
	for _, odd := range append(oddSizes(), 0, minusZero) {
		wantTold(t, "an odd tick", stretch(1, 1, 1, odd, 1), "no")
	}
	for _, odd := range oddSizes() {
		wantTold(t, "an odd core", stretch(1, 1, odd, 0.1, 1), "no")
	}
	for _, odd := range oddTicks() {
		wantTold(t, "an odd real part", stretch(complex(odd, 0), 1, 1, 0.1, 1), "no")
		wantTold(t, "an odd imaginary part", stretch(complex(0, odd), 1, 1, 0.1, 1), "no")
		wantTold(t, "an odd way", stretch(1, complex(odd, 0), 1, 0.1, 1), "no")
		wantTold(t, "an odd imaginary way", stretch(1, complex(0, odd), 1, 0.1, 1), "no")
	}
	for _, steps := range []int64{0, -1, impl.MaxTicks + 1, math.MaxInt64, math.MinInt64, 1 << 32} {
		wantTold(t, fmt.Sprint(steps, " steps"), stretch(1, 1, 1, 0.1, steps), "no")
	}
	wantTold(t, "a sum that is not finite", toldNumber(impl.StretchOf(nil, 3e38, 3e38, 0, 1, 1)), "no")
	wantTold(t, "a distance that is not finite", toldNumber(impl.StretchOf(nil, 0, complex(3e38, 3e38), 0, 1, 1)), "no")
	wantTold(t, "a run that fails", toldNumber(impl.StretchOf([]impl.Whirl{whirl(0, 0, 3e38)}, 1e-10, 1, 0, 1, 1)), "no")
}

// TestTracersThatMeet: tracers that come to one place have parted endlessly little.
func TestTracersThatMeet(t *testing.T) {
	// Both are carried so far that the difference of one least number is lost.
	list := []impl.Whirl{whirl(-1e6, 0, 6e9)}
	apart := complex(float32(0), at(1))
	_, ends, ok := impl.RunTracers(list, []complex64{0, apart}, 0, 1, 1)
	wantBool(t, "they meet", ok && ends[0] == ends[1] && ends[0] != 0, true)
	wantTold(t, "and so there is no stretch", toldNumber(impl.StretchOf(list, 0, apart, 0, 1, 1)), "no")
}
