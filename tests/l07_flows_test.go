package tests

import (
	"fmt"
	"math"
	"testing"

	"loop.example/g01266/impl"
)

func TestFarFlowsOfNodes(t *testing.T) {
	far := func(n impl.Node, p complex64) string { return toldComplex(impl.FarFlow(n, p)) }
	spin := impl.Node{Spin: turn}
	wantTold(t, "a spin at 2", far(spin, 2), wordsOf([]float32{0, 0.5}))
	wantTold(t, "a spin at 2 i", far(spin, complex(0, 2)), wordsOf([]float32{-0.5, 0}))
	wantTold(t, "a spin elsewhere", far(impl.Node{Centre: complex(3, -1), Spin: turn}, complex(5, -1)), wordsOf([]float32{0, 0.5}))
	wantTold(t, "a moment at 2", far(impl.Node{Moment: turn}, 2), wordsOf([]float32{0, 0.25}))
	wantTold(t, "a moment at 2 i", far(impl.Node{Moment: turn}, complex(0, 2)), wordsOf([]float32{0, -0.25}))
	wantTold(t, "a moment along i", far(impl.Node{Moment: complex(0, turn)}, -2), wordsOf([]float32{0.25, 0}))
	wantTold(t, "both", far(impl.Node{Spin: turn, Moment: complex(2*turn, -turn)}, 2), wordsOf([]float32{-0.25, 1}))
	// Zeros are added to +0, so that they have no sign.
	wantTold(t, "nothing", far(impl.Node{Spin: minusZero, Moment: complex(minusZero, minusZero)}, complex(2, 1)), "00000000 00000000")
	wantTold(t, "nothing, at another point", far(impl.Node{Spin: 0, Moment: complex(minusZero, minusZero)}, complex(-2, -1)), "00000000 00000000")
	whole := impl.Node{Centre: 1, Half: at(noNumber), Depth: -8, Whirls: []int64{-1, 99}, Next: []int64{math.MaxInt64}, Spin: turn, Moment: complex(0, 3)}
	bare := impl.Node{Centre: 1, Spin: turn, Moment: complex(0, 3)}
	wantTold(t, "a node with odd numbers", far(whole, complex(-3, 2)), far(bare, complex(-3, 2)))
	for _, n := range []impl.Node{spin, {}, {Moment: 1}, {Centre: complex(2, -3), Spin: 1}} {
		wantTold(t, "at the centre", far(n, n.Centre), "no")
	}
	for _, odd := range oddTicks() {
		for _, x := range []complex64{complex(odd, 1), complex(1, odd)} {
			wantTold(t, "an odd point", far(spin, x), "no")
			wantTold(t, "an odd Centre", far(impl.Node{Centre: x, Spin: 1}, 9), "no")
			wantTold(t, "an odd Moment", far(impl.Node{Moment: x, Spin: 1}, 9), "no")
		}
		wantTold(t, "an odd Spin", far(impl.Node{Spin: odd}, 9), "no")
	}
	wantTold(t, "too near", far(impl.Node{Spin: 1}, 1e-39), "no")
	wantTold(t, "too near for a moment", far(impl.Node{Moment: 1}, 1e-20), "no")
	wantTold(t, "too far", far(impl.Node{Spin: 1}, 1e20), "no")
	wantTold(t, "a way that is not finite", far(impl.Node{Spin: 1, Centre: 3e38}, -3e38), "no")
	wantTold(t, "very far", far(impl.Node{Spin: turn}, 1e18), wordsOf([]float32{0, 1e-18}))
}

// TestFarFlowsAreNearFlows: from far, a node makes what its whirls make, nearly.
func TestFarFlowsAreNearFlows(t *testing.T) {
	for _, list := range [][]impl.Whirl{manyWhirls(1), manyWhirls(8), spreadWhirls(20)} {
		nodes := mustTree(t)(impl.TreeOf(list))
		for _, p := range []complex64{200, complex(-150, 90), complex(0, -1000)} {
			wantNear(t, fmt.Sprint(len(list), " whirls from ", p), mustComplex(t)(impl.FarFlow(nodes[0], p)), mustComplex(t)(impl.FlowAt(list, p, 0)), 2e-4)
		}
	}
}

// walkTree tells what gives flow to a point by the nodes of a tree, from the first one on, with a list of what is left.
func walkTree(nodes []impl.Node, p complex64, open float32) (fars []impl.Node, nears []int64, order string) {
	left := []int64{0}
	for len(left) > 0 {
		n := nodes[left[0]]
		left = left[1:]
		d := p - n.Centre
		switch {
		case len(n.Next) == 0:
			nears = append(nears, n.Whirls...)
			for range n.Whirls {
				order += "w"
			}
		case d != 0 && float32(open*impl.LongOf(d)) >= n.Half:
			fars, order = append(fars, n), order+"n"
		default:
			left = append(append([]int64{}, n.Next...), left...)
		}
	}
	return fars, nears, order
}

// flowTold adds what gives flow to a point in order.
func flowTold(t *testing.T, list []impl.Whirl, p complex64, core, open float32) complex64 {
	t.Helper()
	fars, nears, order := walkTree(mustTree(t)(impl.TreeOf(list)), p, open)
	var sum complex64
	for _, c := range order {
		if c == 'n' {
			sum += mustComplex(t)(impl.FarFlow(fars[0], p))
			fars = fars[1:]
			continue
		}
		// The flow of one whirl is what it adds to others.
		sum += mustComplex(t)(impl.FlowAt([]impl.Whirl{list[nears[0]]}, p, core))
		nears = nears[1:]
	}
	return sum
}

func treeLists() [][]impl.Whirl {
	lists := [][]impl.Whirl{square(0, 0, 1), square(10, -20, 3), nearWhirls(9), nearWhirls(impl.MaxWhirls), append(square(0, 0, 1), whirl(0, 0, 9))}
	for count := 1; count <= impl.MaxWhirls; count += 4 {
		lists = append(lists, spreadWhirls(count), manyWhirls(count))
	}
	return lists
}

// somePoints has points far from whirls, among them, at some of them, and at centres of nodes.
func somePoints(t *testing.T, list []impl.Whirl) []complex64 {
	t.Helper()
	points := []complex64{0, complex(0.3, -0.2), complex(-7, 3), complex(40, 25), complex(-1000, 1), list[0].At, list[len(list)-1].At}
	for i, n := range mustTree(t)(impl.TreeOf(list)) {
		if i%3 == 0 {
			points = append(points, n.Centre)
		}
	}
	return points
}

func TestFlowsByTrees(t *testing.T) {
	mixed := 0
	for i, list := range treeLists() {
		nodes := mustTree(t)(impl.TreeOf(list))
		for k, p := range somePoints(t, list) {
			for _, open := range []float32{0, minusZero, 0.125, 0.5, 1, 2.5, 1e30} {
				what := fmt.Sprint("list ", i, ", point ", k, ", open ", open)
				fars, nears, _ := walkTree(nodes, p, open)
				wantTerms(t, what, int64(len(fars)), int64(len(nears)))(impl.TermsOf(list, p, open))
				if len(fars) > 0 && len(nears) > 0 {
					mixed++
				}
				for _, core := range []float32{0, 0.5} {
					want := flowTold(t, list, p, core, open)
					wantTold(t, what, toldComplex(impl.FlowByTree(list, p, core, open)), toldComplex(want, true))
				}
			}
		}
	}
	wantBool(t, "nodes and whirls give flow together", mixed > 50, true)
}

// TestWhirlsOneAfterAnother: without far nodes, a tree gives the flow of its whirls in the order of leaves.
func TestWhirlsOneAfterAnother(t *testing.T) {
	for _, list := range treeLists() {
		var inOrder []impl.Whirl
		for _, n := range mustTree(t)(impl.TreeOf(list)) {
			if len(n.Next) == 0 {
				for _, i := range n.Whirls {
					inOrder = append(inOrder, list[i])
				}
			}
		}
		for _, p := range somePoints(t, list) {
			for _, core := range []float32{0, minusZero, 0.3} {
				wantTold(t, fmt.Sprint("at ", p), toldComplex(impl.FlowByTree(list, p, core, 0)), toldComplex(impl.FlowAt(inOrder, p, core)))
			}
		}
	}
}

// TestNoTree: without whirls, there is no flow.
func TestNoTree(t *testing.T) {
	for _, none := range [][]impl.Whirl{nil, {}} {
		for _, p := range []complex64{0, complex(minusZero, 3e38)} {
			for _, open := range []float32{0, minusZero, 1, 3e38} {
				wantTold(t, "the flow", toldComplex(impl.FlowByTree(none, p, minusZero, open)), "00000000 00000000")
				wantTerms(t, "the terms", 0, 0)(impl.TermsOf(none, p, open))
				wantTracers(t, "flows", 0, 0)(impl.FlowsByTree(none, []complex64{p, p}, 1, open))
				wantTracers(t, "shared flows", 0, 0)(impl.FlowsShared(none, []complex64{p, p}, 1, open, 8))
				wantTold(t, "the miss", toldNumber(impl.TreeMiss(none, p, 1, open)), "00000000")
			}
		}
	}
}

// TestLeavesAreNear: a leaf gives the flows of its whirls, however far it is.
func TestLeavesAreNear(t *testing.T) {
	list := []impl.Whirl{whirl(0, 0, turn), whirl(2, 0, -turn), whirl(0, 2, 1)}
	for _, p := range []complex64{1e6, complex(1, 1), 0, 2} {
		for _, open := range []float32{0, 1, 3e38} {
			wantTold(t, fmt.Sprint("at ", p), toldComplex(impl.FlowByTree(list, p, 0, open)), toldComplex(impl.FlowAt(list, p, 0)))
			// A whirl at the point is one of them, though it adds nothing.
			wantTerms(t, fmt.Sprint("terms at ", p), 0, 3)(impl.TermsOf(list, p, open))
			wantTold(t, fmt.Sprint("the miss at ", p), toldNumber(impl.TreeMiss(list, p, 0, open)), "00000000")
		}
	}
}

// TestHowOpen: a node is far from just there on where open times the distance is its Half.
func TestHowOpen(t *testing.T) {
	list := square(0, 0, 1)
	for _, row := range []struct {
		p         complex64
		open      float32
		far, near int64
	}{
		{2, 0.5, 1, 0}, {2, at(0x3effffff), 0, 4}, {complex(0, -4), 0.25, 1, 0}, {complex(3, 4), 0.2, 1, 0}, {complex(3, 4), 0.19999, 0, 4},
		{complex(at(0x3fffffff), 0), 0.5, 0, 4}, {0, 1, 0, 4}, {0, 3e38, 0, 4}, {complex(at(1), 0), 1e30, 0, 4}, {1e-30, 1e30, 1, 0}, {1e-30, 3e38, 1, 0},
		{complex(minusZero, minusZero), 3e38, 0, 4}, {100, 0, 0, 4}, {100, minusZero, 0, 4}, {complex(3e38, 3e38), 0, 0, 4}, {complex(3e38, 3e38), 1e-38, 1, 0},
	} {
		what := fmt.Sprint("at ", row.p, ", open ", row.open)
		wantTerms(t, what, row.far, row.near)(impl.TermsOf(list, row.p, row.open))
	}
	root := mustTree(t)(impl.TreeOf(list))[0]
	wantTold(t, "far enough", toldComplex(impl.FlowByTree(list, 2, 0, 0.5)), toldComplex(impl.FarFlow(root, 2)))
	wantTold(t, "a core is nothing to it", toldComplex(impl.FlowByTree(list, 2, 9, 0.5)), toldComplex(impl.FarFlow(root, 2)))
	wantTold(t, "not far enough", toldComplex(impl.FlowByTree(list, 2, 0, at(0x3effffff))), toldComplex(impl.FlowAt(list, 2, 0)))
}

func TestOddTreeArguments(t *testing.T) {
	flowOf := func(list []impl.Whirl, p complex64, core, open float32) [3]string {
		return [3]string{
			toldComplex(impl.FlowByTree(list, p, core, open)),
			toldFlows(impl.FlowsByTree(list, []complex64{9, p}, core, open)),
			toldNumber(impl.TreeMiss(list, p, core, open)),
		}
	}
	no := [3]string{"no", "no", "no"}
	for _, list := range [][]impl.Whirl{nil, manyWhirls(2), manyWhirls(9)} {
		for _, odd := range oddSizes() {
			wantBool(t, "an odd core", flowOf(list, 1, odd, 1) == no, true)
			wantBool(t, "an odd open", flowOf(list, 1, 1, odd) == no, true)
			wantTold(t, "the terms of an odd open", toldTerms(impl.TermsOf(list, 1, odd)), "no")
			wantNoTracers(t, "an odd core, no points")(impl.FlowsByTree(list, nil, odd, 1))
			wantNoTracers(t, "an odd open, no points")(impl.FlowsByTree(list, nil, 1, odd))
			wantNoTracers(t, "an odd core, none shared")(impl.FlowsShared(list, nil, odd, 1, 2))
			wantNoTracers(t, "an odd open, none shared")(impl.FlowsShared(list, nil, 1, odd, 2))
		}
		for _, odd := range oddTicks() {
			for _, p := range []complex64{complex(odd, 1), complex(1, odd)} {
				wantBool(t, "an odd point", flowOf(list, p, 1, 1) == no, true)
				wantTold(t, "the terms at an odd point", toldTerms(impl.TermsOf(list, p, 1)), "no")
			}
		}
	}
}

// TestTreeFlowsThatAreNotFinite: flows fail, but their terms can be counted.
func TestTreeFlowsThatAreNotFinite(t *testing.T) {
	list := square(0, 0, 1)
	wantTold(t, "a far node", toldComplex(impl.FlowByTree(list, 1e20, 0, 1)), "no")
	wantTerms(t, "a far node, its term", 1, 0)(impl.TermsOf(list, 1e20, 1))
	wantBool(t, "near whirls", toldComplex(impl.FlowByTree(list, 1e20, 0, 0)) != "no", true)
	wantTold(t, "the miss of a far node", toldNumber(impl.TreeMiss(list, 1e20, 0, 1)), "no")
	dense := []impl.Whirl{whirl(1, 0, 3e38)}
	near := complex(float32(1), 1e-10)
	wantTold(t, "a near whirl", toldComplex(impl.FlowByTree(dense, near, 0, 1)), "no")
	wantTerms(t, "a near whirl, its term", 0, 1)(impl.TermsOf(dense, near, 1))
	wantTold(t, "the miss of a near whirl", toldNumber(impl.TreeMiss(dense, near, 0, 1)), "no")
	corners := square(2, 2, 2)
	wantBool(t, "a far node at a whirl", toldComplex(impl.FlowByTree(corners, 1e-20, 0, 1)) != "no", true)
	wantTold(t, "the miss of a far node at a whirl", toldNumber(impl.TreeMiss(corners, 1e-20, 0, 1)), "no")
	wantTold(t, "at the whirl", toldComplex(impl.FlowByTree(dense, 1, 0, 1)), "00000000 00000000")
	for _, points := range [][]complex64{{near, 5}, {5, 6, near}} {
		wantNoTracers(t, "one of the points")(impl.FlowsByTree(dense, points, 0, 1))
		for workers := int64(1); workers <= impl.MaxWorkers; workers++ {
			wantNoTracers(t, "one of shared points")(impl.FlowsShared(dense, points, 0, 1, workers))
		}
	}
}

func TestFlowsAtPoints(t *testing.T) {
	for _, list := range append(treeLists(), nil) {
		for _, count := range []int{0, 1, 5, impl.MaxTracers} {
			points := manyTracers(count)
			var want []complex64
			for _, p := range points {
				want = append(want, mustComplex(t)(impl.FlowByTree(list, p, 0.25, 0.5)))
			}
			wantTracers(t, fmt.Sprint(count, " points"), want...)(impl.FlowsByTree(list, points, 0.25, 0.5))
		}
	}
}

func TestOddWorkers(t *testing.T) {
	for _, workers := range []int64{0, -1, impl.MaxWorkers + 1, math.MaxInt64, math.MinInt64, 1 << 32, 1<<32 + 1} {
		for _, list := range [][]impl.Whirl{nil, manyWhirls(7)} {
			for _, count := range []int{0, 1, 9} {
				wantNoTracers(t, fmt.Sprint(workers, " workers"))(impl.FlowsShared(list, manyTracers(count), 1, 1, workers))
			}
		}
	}
}

func TestTreeMisses(t *testing.T) {
	missed := 0
	for i, list := range treeLists() {
		for _, p := range somePoints(t, list) {
			for _, open := range []float32{0, 0.3, 1} {
				what := fmt.Sprint("list ", i, " at ", p, ", open ", open)
				miss := mustComplex(t)(impl.FlowByTree(list, p, 0.2, open)) - mustComplex(t)(impl.FlowAt(list, p, 0.2))
				got := mustNumber(t)(impl.TreeMiss(list, p, 0.2, open))
				wantTold(t, what, toldNumber(got, true), toldNumber(impl.LongOf(miss), true))
				if open == 0 {
					wantLess(t, what, float64(got), 1e-5)
				}
				if got > 1e-4 {
					missed++
				}
			}
		}
	}
	wantBool(t, "far nodes miss something", missed > 5, true)
	// What is less open misses less.
	list := spreadWhirls(24)
	far, near := mustNumber(t)(impl.TreeMiss(list, complex(9, 9), 0, 2)), mustNumber(t)(impl.TreeMiss(list, complex(9, 9), 0, 0.3))
	wantLess(t, "less open", float64(near), float64(far))
	// Both flows are finite, but how far they are from one another is not.
	left, right := whirl(-0.2015, 0.2015, 1.7e38), whirl(0.2015, -0.2015, -1.7e38)
	list = []impl.Whirl{left, right, right, left, whirl(3, -3, 0)}
	wantLess(t, "the flow by the tree", float64(impl.LongOf(mustComplex(t)(impl.FlowByTree(list, 0, 0, 1e30)))), 1e37)
	wantLess(t, "the flow", 2e38, float64(real(mustComplex(t)(impl.FlowAt(list, 0, 0)))))
	wantTold(t, "a miss that is not finite", toldNumber(impl.TreeMiss(list, 0, 0, 1e30)), "no")
}
