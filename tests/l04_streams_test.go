package tests

import (
	"fmt"
	"math"
	"testing"

	"loop.example/g01266/impl"
)

// besideOf adds the spins beside a cell, those of its row first.
func besideOf(b impl.Basin, x, y int64) float32 {
	row := spinIn(b, x-1, y) + spinIn(b, x+1, y)
	column := spinIn(b, x, y-1) + spinIn(b, x, y+1)
	return row + column
}

func TestLaplaceBasins(t *testing.T) {
	for _, b := range []impl.Basin{manyCells(3, 3), manyCells(5, 3), manyCells(4, 7), manyCells(impl.MaxSide, impl.MaxSide)} {
		want := ofCells(b.Wide, b.High, func(x, y int64) float32 {
			own := 4 * spinIn(b, x, y)
			return besideOf(b, x, y) - own
		})
		wantBasin(t, fmt.Sprint(b.Wide, " wide and ", b.High, " high"), want)(impl.LaplaceBasin(b))
	}
	// Cells beside joined edges have one another's spins.
	one := withSpin(evenCells(4, 3, 0), 3, 1)
	wantBasin(t, "a corner", basin(4, 3, 1, 0, 1, -4, 0, 0, 0, 1, 0, 0, 0, 1))(impl.LaplaceBasin(one))
	wantBasin(t, "the middle", basin(3, 3, 0, 1, 0, 1, -4, 1, 0, 1, 0))(impl.LaplaceBasin(withSpin(evenCells(3, 3, 0), 4, 1)))
	// Sums are made of two sums: any other order tells 1 or 2 of the cell in the middle here.
	order := basin(3, 3, 0, 1, 0, 16777216, 0, 1, 0, -16777216, 0)
	wantTold(t, "the order of a sum", wordsOf(mustBasin(t)(impl.LaplaceBasin(order)).Spins[4:5]), wordsOf([]float32{1}))
}

func TestLaplaceBasinsThatAreNotFinite(t *testing.T) {
	wantNoBasin(t, "four times a spin")(impl.LaplaceBasin(withSpin(evenCells(3, 3, 0), 4, 1e38)))
	wantNoBasin(t, "the sum of a row")(impl.LaplaceBasin(basin(4, 3, 0, 0, 0, 0, 3e38, 0, 3e38, 0, 0, 0, 0, 0)))
	wantNoBasin(t, "less than all numbers")(impl.LaplaceBasin(evenCells(3, 3, 1e38)))
	wantBasin(t, "far, but finite", basin(3, 3, 0, 8e37, 0, 8e37, -3.2e38, 8e37, 0, 8e37, 0))(impl.LaplaceBasin(withSpin(evenCells(3, 3, 0), 4, 8e37)))
}

// sweepOnce makes one sweep without the program's streams.
func sweepOnce(even, stream impl.Basin) impl.Basin {
	swept := withSpin(stream, 0, stream.Spins[0])
	for i := range swept.Spins {
		sum := besideOf(swept, int64(i)%swept.Wide, int64(i)/swept.Wide) + even.Spins[i]
		swept.Spins[i] = 0.25 * sum
	}
	return swept
}

func TestSweeps(t *testing.T) {
	one := withSpin(evenCells(3, 3, 0), 0, 9)
	want := basin(3, 3, 2, 0.25, 0.3125, 0.25, -0.125, -0.140625, 0.3125, -0.140625, -0.1640625)
	wantBasin(t, "one sweep", want)(impl.SweepStream(one, evenCells(3, 3, 0), 1))
	for _, b := range []impl.Basin{one, manyCells(5, 3), manyCells(4, 7), manyCells(impl.MaxSide, impl.MaxSide)} {
		stream := ofCells(b.Wide, b.High, func(x, y int64) float32 { return float32(x)/3 - float32(y*y)/7 })
		even := mustBasin(t)(impl.EvenOut(b))
		swept := stream
		for sweeps := int64(0); sweeps <= impl.MaxSweeps; sweeps++ {
			wantBasin(t, fmt.Sprint(sweeps, " sweeps"), swept)(impl.SweepStream(b, stream, sweeps))
			swept = sweepOnce(even, swept)
		}
		for _, sweeps := range []int64{-1, impl.MaxSweeps + 1, math.MaxInt64, math.MinInt64, 1 << 32} {
			wantNoBasin(t, fmt.Sprint(sweeps, " sweeps"))(impl.SweepStream(b, stream, sweeps))
		}
	}
	// A stream of which a sweep returns a copy stays as it is.
	stream := manyCells(4, 3)
	copied := mustBasin(t)(impl.SweepStream(manyCells(4, 3), stream, 0))
	copied.Spins[0] = 99
	wantBasin(t, "the stream", manyCells(4, 3))(stream, true)
	mustBasin(t)(impl.SweepStream(manyCells(4, 3), stream, 9))
	wantBasin(t, "the stream behind sweeps", manyCells(4, 3))(stream, true)
}

// TestStreamsWithoutMean: all that is told with EvenOut fails where it does, also for 0 sweeps, but not for a run of 0 steps.
func TestStreamsWithoutMean(t *testing.T) {
	still := evenCells(3, 3, 0)
	for i, b := range withoutMean() {
		what := fmt.Sprint("basin ", i)
		wantBool(t, what, impl.ValidBasin(b), true)
		for _, sweeps := range []int64{0, 1, impl.MaxSweeps} {
			wantNoBasin(t, what)(impl.SweepStream(b, still, sweeps))
			wantNoBasin(t, what)(impl.StepBasin(b, 0, 0, sweeps))
			wantTold(t, what, toldRun(impl.RunBasin(b, 0, 0, sweeps, 1)), "no")
			wantTold(t, what, toldRun(impl.RunBasin(b, 0, 0, sweeps, 0)), wordsOfBasin(b))
		}
		wantTold(t, what, toldNumber(impl.MissOfStream(b, still)), "no")
		wantNoBasin(t, what)(impl.WaveStream(b))
		wantBasin(t, what+" as a stream", b)(impl.SweepStream(still, b, 0))
	}
}

func TestSweepsThatAreNotFinite(t *testing.T) {
	still, high := evenCells(3, 3, 0), basin(3, 3, 3e38, 0, 0, 3e38, 0, 0, 3e38, 0, 0)
	wantBasin(t, "no sweeps", high)(impl.SweepStream(still, high, 0))
	wantNoBasin(t, "a sweep")(impl.SweepStream(still, high, 1))
	wantNoBasin(t, "all sweeps")(impl.SweepStream(still, high, impl.MaxSweeps))
	wantTold(t, "a miss", toldNumber(impl.MissOfStream(still, high)), "no")
	wantTold(t, "a sum of numbers that are finite", toldNumber(impl.MissOfStream(withSpin(still, 4, -3e38), withSpin(still, 4, 8e37))), "no")
}

func TestMisses(t *testing.T) {
	still := evenCells(3, 3, 0)
	for i := range 9 {
		wantTold(t, "a spin and no stream", toldNumber(impl.MissOfStream(withSpin(still, i, 9), still)), wordsOf([]float32{8}))
		wantTold(t, "an opposite spin", toldNumber(impl.MissOfStream(withSpin(still, i, -9), still)), wordsOf([]float32{8}))
		wantTold(t, "a stream and no spin", toldNumber(impl.MissOfStream(still, withSpin(still, i, 9))), wordsOf([]float32{36}))
		wantTold(t, "both", toldNumber(impl.MissOfStream(withSpin(still, i, 9), withSpin(still, i, 9))), wordsOf([]float32{28}))
		wantTold(t, "a low stream", toldNumber(impl.MissOfStream(still, withSpin(still, i, -9))), wordsOf([]float32{36}))
	}
	for _, a := range []float32{0, minusZero, 5} {
		for _, b := range []float32{0, minusZero, -7} {
			wantTold(t, "flat ones", toldNumber(impl.MissOfStream(evenCells(4, 3, a), evenCells(4, 3, b))), "00000000")
		}
	}
}

// TestWavesOfNothing: a flat basin has a stream of nothing, whose zeros have no meaning, but a sign.
func TestWavesOfNothing(t *testing.T) {
	for _, spin := range []float32{0, minusZero, 1, -3} {
		stream := mustBasin(t)(impl.WaveStream(evenCells(5, 4, spin)))
		for _, value := range stream.Spins {
			if value != 0 {
				t.Errorf("flat, %v: the stream has %v", spin, value)
			}
		}
	}
}

// TestWavesFarAway: waves are told in long numbers, so that only the stream itself can be too far away.
func TestWavesFarAway(t *testing.T) {
	for _, far := range []float32{1e38, -3e38, 1e-38} {
		b := withSpin(evenCells(3, 3, 0), 4, far)
		stream := mustBasin(t)(impl.WaveStream(b))
		wantNear(t, fmt.Sprint("the spin ", far), complex(stream.Spins[4]/far, 0), 2.0/9, 1e-6)
		wantNear(t, fmt.Sprint("beside the spin ", far), complex(stream.Spins[1]/far, 0), 0, 1e-6)
		wantNear(t, fmt.Sprint("across from the spin ", far), complex(stream.Spins[0]/far, 0), -1.0/18, 1e-6)
	}
	halves := func(spin float32) impl.Basin {
		return ofCells(impl.MaxSide, impl.MaxSide, func(x, y int64) float32 {
			if x >= 4 && x < 12 {
				return spin
			}
			return -spin
		})
	}
	stream := mustBasin(t)(impl.WaveStream(halves(4e37)))
	wantNear(t, "the middle of a half", complex(stream.Spins[8]/4e37, 0), 8, 1e-4)
	mustBasin(t)(impl.EvenOut(halves(6e37)))
	wantNoBasin(t, "a stream that is not finite")(impl.WaveStream(halves(6e37)))
}

func TestFlowsInBasins(t *testing.T) {
	for _, b := range []impl.Basin{manyCells(3, 3), manyCells(5, 3), manyCells(4, 7), manyCells(impl.MaxSide, impl.MaxSide)} {
		u, v, ok := impl.FlowsInBasin(b)
		wantBasin(t, "to greater x", ofCells(b.Wide, b.High, func(x, y int64) float32 {
			return (spinIn(b, x, y+1) - spinIn(b, x, y-1)) / 2
		}))(u, ok)
		wantBasin(t, "to greater y", ofCells(b.Wide, b.High, func(x, y int64) float32 {
			return (spinIn(b, x-1, y) - spinIn(b, x+1, y)) / 2
		}))(v, ok)
	}
	one := withSpin(evenCells(3, 3, 0), 8, 9)
	u, v, ok := impl.FlowsInBasin(one)
	wantBasin(t, "around a corner, to greater x", basin(3, 3, 0, 0, -4.5, 0, 0, 4.5, 0, 0, 0))(u, ok)
	wantBasin(t, "around a corner, to greater y", basin(3, 3, 0, 0, 0, 0, 0, 0, 4.5, -4.5, 0))(v, ok)
	wantTold(t, "flows to greater x that are not finite", toldBasins(impl.FlowsInBasin(basin(3, 3, 3e38, 3e38, 3e38, 0, 0, 0, -3e38, -3e38, -3e38))), "no")
	wantTold(t, "flows to greater y that are not finite", toldBasins(impl.FlowsInBasin(basin(3, 3, 3e38, 0, -3e38, 3e38, 0, -3e38, 3e38, 0, -3e38))), "no")
}
