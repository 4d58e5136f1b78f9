package tests

import (
	"fmt"
	"math"
	"testing"

	"loop.example/g01266/impl"
)

func TestRespacedSquares(t *testing.T) {
	corners := []impl.Vector{{}, vector(2, 0, 0), vector(2, 2, 0), vector(0, 2, 0)}
	square := thread(3, corners...)
	middles := []impl.Vector{vector(1, 0, 0), vector(2, 1, 0), vector(1, 2, 0), vector(0, 1, 0)}
	want := impl.Thread{Spin: 3}
	for i := range corners {
		want.Points = append(want.Points, corners[i], middles[i])
	}
	wantThread(t, "twice as many", want)(impl.RespaceThread(square, 8))
	wantThread(t, "as many", square)(impl.RespaceThread(square, 4))
	third := float32(8) / 3
	wantThread(t, "less", thread(3, corners[0], vector(2, third-2, 0), vector(2-(2*third-4), 2, 0)))(impl.RespaceThread(square, 3))
	for _, count := range oddCounts() {
		wantNoThread(t, fmt.Sprint(count, " points"))(impl.RespaceThread(square, count))
	}
	// Where a segment ends, it is still taken, so that the point is its first one and the rounded way.
	rounded := thread(1, vector(1, 0, 0), vector(1e-9, 0, 0), vector(1e-9, 1, 0), vector(1, 1, 0))
	wantThread(t, "the end of a segment", withPoint(rounded, 1, impl.Vector{}))(impl.RespaceThread(rounded, 4))
}

// TestRespacedThreads: all points are on the thread, as far along it as they must be, nearly.
func TestRespacedThreads(t *testing.T) {
	for corners := 3; corners <= impl.MaxThread; corners++ {
		a := manyCorners(corners)
		long := mustNumber(t)(impl.LengthOfThread(a))
		for count := int64(3); count <= impl.MaxThread; count++ {
			what := fmt.Sprint(corners, " points to ", count)
			even := mustThread(t)(impl.RespaceThread(a, count))
			wantBool(t, what, int64(len(even.Points)) == count && even.Points[0] == a.Points[0] && even.Spin == a.Spin, true)
			i, behind := 0, float32(0)
			for k, p := range even.Points {
				far := float32(k) * long / float32(count)
				for {
					next := impl.LessVectors(a.Points[(i+1)%corners], a.Points[i])
					size := impl.SizeOfVector(next)
					if far <= behind+size || i == corners-1 {
						on := impl.AddVectors(a.Points[i], impl.ScaleVector(next, (far-behind)/size))
						wantLess(t, fmt.Sprint(what, ", point ", k), float64(impl.SizeOfVector(impl.LessVectors(p, on))), 1e-4)
						break
					}
					i, behind = i+1, behind+size
				}
			}
		}
	}
}

func TestRespacedEdges(t *testing.T) {
	p := vector(1, -2, 3)
	for _, count := range []int64{3, 7, impl.MaxThread} {
		want := impl.Thread{Spin: -1}
		for range count {
			want.Points = append(want.Points, p)
		}
		wantThread(t, fmt.Sprint("one place, ", count, " points"), want)(impl.RespaceThread(thread(-1, p, p, p, p), count))
	}
	double := thread(1, impl.Vector{}, impl.Vector{}, vector(2, 0, 0), vector(2, 0, 0), vector(2, 0, 0), vector(2, 2, 0), vector(0, 2, 0), vector(0, 2, 0))
	wantThread(t, "segments without length", thread(1, impl.Vector{}, vector(2, 0, 0), vector(2, 2, 0), vector(0, 2, 0)))(impl.RespaceThread(double, 4))
	// The squares of these ways are 0, and so are their lengths.
	short := thread(1, impl.Vector{}, vector(1e-30, 0, 0), vector(0, 1e-30, 0))
	wantThread(t, "segments that are too short", thread(1, impl.Vector{}, impl.Vector{}, impl.Vector{}, impl.Vector{}))(impl.RespaceThread(short, 4))
	wantNoThread(t, "segments that are too long")(impl.RespaceThread(thread(1, impl.Vector{}, vector(2e19, 0, 0), vector(0, 1, 0)), 4))
	wantNoThread(t, "points too far apart")(impl.RespaceThread(thread(1, vector(3e38, 0, 0), vector(-3e38, 0, 0), vector(3e38, 0, 0)), 4))
}

func TestNearestPoints(t *testing.T) {
	square := thread(1, impl.Vector{}, vector(2, 0, 0), vector(2, 2, 0), vector(0, 2, 0))
	other := mustThread(t)(impl.MoveThread(square, vector(3, 0, 0)))
	wantTold(t, "squares side by side", toldNearest(impl.NearestOfThreads(square, other)), wordsOf([]float32{1, 0, 1}))
	wantTold(t, "the other way round", toldNearest(impl.NearestOfThreads(other, square)), wordsOf([]float32{0, 1, 1}))
	wantTold(t, "one thread", toldNearest(impl.NearestOfThreads(square, square)), wordsOf([]float32{0, 0, 0}))
	wantTold(t, "shifted", toldNearest(impl.NearestOfThreads(square, mustThread(t)(impl.ShiftThread(square, 3)))), wordsOf([]float32{0, 1, 0}))
	far := vector(100, 100, 100)
	first := thread(5, far, vector(1, 0, 0), vector(0, 50, 0))
	second := thread(-7, vector(-50, 0, 0), vector(1, 0, 2), vector(0, 50, 2))
	// Both points with the index 1, and both with 2, are 2 apart, and the former come first.
	wantTold(t, "several", toldNearest(impl.NearestOfThreads(first, second)), wordsOf([]float32{1, 1, 2}))
	wantTold(t, "several for one point", toldNearest(impl.NearestOfThreads(thread(0, far, impl.Vector{}, far), thread(0, far, vector(0, -1, 0), vector(0, 0, 1)))), wordsOf([]float32{0, 0, 0}))
	last := thread(0, far, vector(0, -1, 0), vector(0, 0, 1))
	wantTold(t, "the first one of b", toldNearest(impl.NearestOfThreads(thread(0, impl.Vector{}, impl.Vector{}, impl.Vector{}), last)), wordsOf([]float32{0, 1, 1}))
	// Distances of which the squares are 0 are all alike.
	near := thread(0, vector(1e-30, 0, 0), impl.Vector{}, impl.Vector{})
	wantTold(t, "too near to be told", toldNearest(impl.NearestOfThreads(near, thread(0, far, vector(0, 1e-30, 0), impl.Vector{}))), wordsOf([]float32{0, 1, 0}))
	endless := thread(0, vector(3e38, 0, 0), vector(-3e38, 0, 0), vector(0, 3e38, 0))
	wantTold(t, "only far ones", toldNearest(impl.NearestOfThreads(square, endless)), "no")
	wantTold(t, "one that is not far", toldNearest(impl.NearestOfThreads(square, withPoint(endless, 2, vector(2, 2, 7)))), wordsOf([]float32{2, 2, 7}))
	wantTold(t, "far ones at one place", toldNearest(impl.NearestOfThreads(endless, endless)), wordsOf([]float32{0, 0, 0}))
}

// aroundFrom returns points from the index i on, around.
func aroundFrom(points []impl.Vector, i int) []impl.Vector {
	var list []impl.Vector
	for k := range points {
		list = append(list, points[(i+k)%len(points)])
	}
	return list
}

func TestJoinedThreads(t *testing.T) {
	a := withThreadSpin(manyCorners(4), 0.5)
	b := withThreadSpin(mustThread(t)(impl.MoveThread(manyCorners(5), vector(9, 9, 9))), 0.5)
	for i := range a.Points {
		for k := range b.Points {
			want := thread(0.5, append(aroundFrom(a.Points, i+1), aroundFrom(b.Points, k+1)...)...)
			wantThread(t, fmt.Sprint("joined at ", i, " and ", k), want)(impl.JoinThreads(a, b, int64(i), int64(k)))
		}
	}
	for _, i := range oddIndices(4) {
		wantNoThread(t, fmt.Sprint("the index ", i, " of a"))(impl.JoinThreads(a, b, i, 0))
	}
	for _, k := range oddIndices(5) {
		wantNoThread(t, fmt.Sprint("the index ", k, " of b"))(impl.JoinThreads(a, b, 0, k))
	}
	for _, spin := range []float32{-0.5, 0, math.Nextafter32(0.5, 1), 3e38} {
		wantNoThread(t, "another spin")(impl.JoinThreads(a, withThreadSpin(b, spin), 0, 0))
		wantNoThread(t, "another spin of the first one")(impl.JoinThreads(withThreadSpin(a, spin), b, 0, 0))
	}
	// Zeros are equal, and the thread that is told of first tells the sign.
	for _, spin := range []float32{0, minusZero} {
		want := thread(spin, append(aroundFrom(a.Points, 1), aroundFrom(b.Points, 1)...)...)
		wantThread(t, "zeros with other signs", want)(impl.JoinThreads(withThreadSpin(a, spin), withThreadSpin(b, -spin), 0, 0))
	}
	for count := 3; count <= impl.MaxThread; count++ {
		whole := manyCorners(count)
		for other := 3; other <= impl.MaxThread; other++ {
			joined, ok := impl.JoinThreads(whole, manyCorners(other), int64(count-1), int64(other-1))
			what := fmt.Sprint(count, " and ", other, " points")
			wantBool(t, what, ok, count+other <= impl.MaxThread)
			wantBool(t, what, ok == (len(joined.Points) == count+other), true)
		}
	}
}

func TestSplitThreads(t *testing.T) {
	for count := 3; count <= 12; count++ {
		a := manyCorners(count)
		for i := -1; i <= count; i++ {
			for k := -1; k <= count; k++ {
				want := "no"
				if i >= 0 && k < count && k-i >= 3 && count-(k-i) >= 3 {
					first := thread(a.Spin, a.Points[i:k]...)
					second := thread(a.Spin, append(append([]impl.Vector{}, a.Points[k:]...), a.Points[:i]...)...)
					want = wordsOfThreads(first, second)
				}
				wantTold(t, fmt.Sprint(count, " points at ", i, " and ", k), toldSplit(impl.SplitThread(a, int64(i), int64(k))), want)
			}
		}
	}
	whole := manyCorners(impl.MaxThread)
	for _, odd := range oddIndices(impl.MaxThread) {
		wantTold(t, fmt.Sprint("from ", odd), toldSplit(impl.SplitThread(whole, odd, 8)), "no")
		wantTold(t, fmt.Sprint("to ", odd), toldSplit(impl.SplitThread(whole, 2, odd)), "no")
	}
	wantTold(t, "as many points as can be left", toldSplit(impl.SplitThread(whole, 2, 31)), wordsOfThreads(
		thread(1.5, whole.Points[2:31]...), thread(1.5, whole.Points[31], whole.Points[0], whole.Points[1])))
}

// TestSplitAndJoined: what is joined can be split into both again.
func TestSplitAndJoined(t *testing.T) {
	a, b := manyCorners(6), mustThread(t)(impl.MoveThread(manyCorners(9), vector(0, 0, 8)))
	joined := mustThread(t)(impl.JoinThreads(a, b, 5, 8))
	wantTold(t, "split", toldSplit(impl.SplitThread(joined, 0, 6)), wordsOfThreads(a, b))
	back := mustThread(t)(impl.ShiftThread(joined, 6))
	wantTold(t, "shifted and split", toldSplit(impl.SplitThread(back, 0, 9)), wordsOfThreads(b, a))
}

// crossed returns two threads of which one segment each is near to one of the other one, where the first one is twice e long.
func crossed(e, h float32) (impl.Thread, impl.Thread) {
	return thread(1, vector(-e, 0, 0), vector(e, 0, 0), vector(0, -4, -3)), thread(1, vector(0, -1, h), vector(0, 1, h), vector(4, 0, 3))
}

func TestLinkEdges(t *testing.T) {
	square := thread(1, impl.Vector{}, vector(2, 0, 0), vector(2, 2, 0), vector(0, 2, 0))
	// All pairs of segments with a middle at one place are left out, and the others are in one plane.
	wantTold(t, "a square and itself", toldLink(impl.LinkOfThreads(square, square)), wordsOf([]float32{0, 0}))
	across := thread(1, vector(1, -1, 0), vector(1, 1, 0), vector(1, 1, 5), vector(1, -1, 5))
	_, _, ok := impl.LinkOfThreads(square, across)
	wantBool(t, "two middles at one place", ok, true)
	p := vector(1, -2, 3)
	wantTold(t, "one place", toldLink(impl.LinkOfThreads(thread(1, p, p, p), square)), wordsOf([]float32{0, 0}))
	// The square of this distance is 0, so that the pair is left out.
	link, whole, ok := impl.LinkOfThreads(crossed(1, 1e-23))
	wantBool(t, "middles nearly at one place", ok && math.Abs(float64(link)) < 1 && whole == 0, true)
	wantTold(t, "an endless link", toldLink(impl.LinkOfThreads(crossed(1, 1e-15))), "no")
	wantTold(t, "a link of numbers too large", toldLink(impl.LinkOfThreads(mustThread(t)(impl.ScaleThread(square, 1e19)), mustThread(t)(impl.ScaleThread(across, 1.5e19)))), "no")
	// Twice 3e38 is too large, so that all m are not-a-numbers here, and all pairs are left out.
	far := thread(1, vector(3e38, 0, 0), vector(3e38, 1e20, 0), vector(3e38, 0, 1e20))
	farther := thread(1, vector(3.3e38, 0, 0), vector(3.3e38, 1e20, 0), vector(3.3e38, 0, 1e20))
	wantTold(t, "middles that are too far", toldLink(impl.LinkOfThreads(far, farther)), wordsOf([]float32{0, 0}))
}

// TestGreatLinks: the absolute value of a link is at most 1000000.
func TestGreatLinks(t *testing.T) {
	e, h := at(0x3f82a668), at(0x3a156c0d)
	wantTold(t, "the least link", toldLink(impl.LinkOfThreads(crossed(e, h))), wordsOf([]float32{-1000000, -1000000}))
	wantTold(t, "the greatest link", toldLink(impl.LinkOfThreads(crossed(e, -h))), wordsOf([]float32{1000000, 1000000}))
	// The next numbers, too, whose nearest integer is the same.
	wantTold(t, "a link that is less", toldLink(impl.LinkOfThreads(crossed(at(0x3f82a669), h))), "no")
	wantTold(t, "a link that is greater", toldLink(impl.LinkOfThreads(crossed(at(0x3f82a669), -h))), "no")
	wantTold(t, "a link that is much less", toldLink(impl.LinkOfThreads(crossed(2, h))), "no")
	wantTold(t, "a link that is much greater", toldLink(impl.LinkOfThreads(crossed(2, -h))), "no")
}

// TestHalfLinks: links in the middle of two integers are rounded to the even one.
func TestHalfLinks(t *testing.T) {
	wantToldRows(t, "LinkOfThreads", halfLinkRows, threadCalls()["LinkOfThreads"])
}
