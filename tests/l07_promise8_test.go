package tests

import (
	"fmt"
	"slices"
	"sync"
	"testing"

	"loop.example/g01266/impl"
)

// behindNode returns the nodes that stand behind a node in its whole tree, in order.
func behindNode(nodes []impl.Node, i int64) []int64 {
	var list []int64
	for _, next := range nodes[i].Next {
		list = append(append(list, next), behindNode(nodes, next)...)
	}
	return list
}

// wantDivided checks one node: its whirls are those of its quarters, each of them in the right one.
func wantDivided(t *testing.T, what string, list []impl.Whirl, nodes []impl.Node, i int64) {
	t.Helper()
	n := nodes[i]
	isLeaf := len(n.Whirls) <= impl.LeafSize || n.Depth >= impl.MaxDepth || !(n.Half > 0)
	wantBool(t, what+" is a leaf", len(n.Next) == 0, isLeaf)
	var all []int64
	for _, next := range n.Next {
		q := nodes[next]
		wantBool(t, what+" is over its quarters", q.Depth == n.Depth+1 && q.Half == n.Half/2 && len(q.Whirls) > 0, true)
		x, y := real(n.Centre)-q.Half, imag(n.Centre)-q.Half
		right, up := real(q.Centre) != x, imag(q.Centre) != y
		if right {
			x = real(n.Centre) + q.Half
		}
		if up {
			y = imag(n.Centre) + q.Half
		}
		wantBool(t, what+" has its quarters around its Centre", q.Centre == complex(x, y), true)
		for _, w := range q.Whirls {
			p := list[w].At
			isHere := q.Half == 0 || real(p) >= real(n.Centre) == right && imag(p) >= imag(n.Centre) == up
			wantBool(t, what+" puts whirls into the right quarters", isHere, true)
		}
		all = append(all, q.Whirls...)
	}
	wantBool(t, what+" has ascending whirls", slices.IsSorted(n.Whirls), true)
	if !isLeaf {
		slices.Sort(all)
		wantBool(t, what+" divides all of its whirls", slices.Equal(all, n.Whirls), true)
	}
	same := node(t, list, n.Depth, n.Centre, n.Half, n.Whirls, n.Next...)
	wantTold(t, what+", its moments", toldTree([]impl.Node{n}, true), toldTree([]impl.Node{same}, true))
}

// TestPromise8Divided: a tree divides all of its whirls, and each of them is in one leaf.
func TestPromise8Divided(t *testing.T) {
	for l, list := range dividedLists(t) {
		nodes := mustTree(t)(impl.TreeOf(list))
		var whirls []int64
		for i, n := range nodes {
			wantDivided(t, fmt.Sprint("list ", l, ", node ", i), list, nodes, int64(i))
			if len(n.Next) == 0 {
				whirls = append(whirls, n.Whirls...)
			}
		}
		var all, order []int64
		for i := range list {
			all = append(all, int64(i))
		}
		for i := range nodes[1:] {
			order = append(order, int64(i+1))
		}
		what := fmt.Sprint("list ", l)
		wantBool(t, what+", the first node has all whirls", slices.Equal(nodes[0].Whirls, all) && nodes[0].Depth == 0, true)
		slices.Sort(whirls)
		wantBool(t, what+", each whirl is in one leaf", slices.Equal(whirls, all), true)
		wantBool(t, what+", nodes stand behind their nodes", slices.Equal(behindNode(nodes, 0), order), true)
	}
}

// dividedLists has lists of all lengths, drawn and regular ones, with whirls at one place, and in corners.
func dividedLists(t *testing.T) [][]impl.Whirl {
	t.Helper()
	lists := treeLists()
	for count := int64(1); count <= impl.MaxWhirls; count++ {
		drawn, _, ok := impl.NoiseTracers(count, 8, 1000+count)
		wantBool(t, "noise", ok, true)
		var list, twice, grid []impl.Whirl
		for i, p := range drawn {
			list = append(list, impl.Whirl{At: p, Spin: float32(i%4) - 1.25})
			twice = append(twice, impl.Whirl{At: drawn[i/2], Spin: 1})
			grid = append(grid, whirl(float32(i%4), float32(i/4), 0.5))
		}
		lists = append(lists, list, twice, grid)
	}
	return lists
}

// TestPromise8Workers: any number of workers tells the same flows as one after another, to the last bit.
func TestPromise8Workers(t *testing.T) {
	for l, list := range append(treeLists(), nil) {
		for _, count := range []int{0, 1, 2, 3, 7, 8, 9, impl.MaxTracers} {
			points := manyTracers(count)
			for _, open := range []float32{0, 0.7, 4} {
				want := toldFlows(impl.FlowsByTree(list, points, 0.1, open))
				wantBool(t, "flows", want != "no", true)
				for workers := int64(1); workers <= impl.MaxWorkers; workers++ {
					what := fmt.Sprint("list ", l, ", ", count, " points, ", workers, " workers")
					wantTold(t, what, toldFlows(impl.FlowsShared(list, points, 0.1, open, workers)), want)
				}
			}
		}
	}
}

// TestPromise8ManyTimes: whichever worker is first, the flows stay the same, also where many calls go on at once.
func TestPromise8ManyTimes(t *testing.T) {
	list, points := spreadWhirls(impl.MaxWhirls), manyTracers(impl.MaxTracers)
	want := toldFlows(impl.FlowsByTree(list, points, 0.1, 0.7))
	var calling sync.WaitGroup
	got := make([]string, 40)
	for i := range got {
		calling.Go(func() {
			for range 10 {
				got[i] = toldFlows(impl.FlowsShared(list, points, 0.1, 0.7, int64(i%impl.MaxWorkers)+1))
				if got[i] != want {
					return
				}
			}
		})
	}
	calling.Wait()
	for i, flows := range got {
		wantTold(t, fmt.Sprint("call ", i), flows, want)
	}
}
