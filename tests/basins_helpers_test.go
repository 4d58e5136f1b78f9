package tests

import (
	"testing"

	"loop.example/g01266/impl"
)

// basinsOf makes basins of a number for each side, and as many spins as cells, one after another.
func basinsOf(in []float32) []impl.Basin {
	var list []impl.Basin
	for len(in) > 0 {
		end := 2 + int(in[0]*in[1])
		list = append(list, impl.Basin{Wide: int64(in[0]), High: int64(in[1]), Spins: in[2:end]})
		in = in[end:]
	}
	return list
}

func basin(wide, high int64, spins ...float32) impl.Basin {
	return impl.Basin{Wide: wide, High: high, Spins: spins}
}

// manyCells makes a basin, valid or not, whose spins have few equal ones.
func manyCells(wide, high int64) impl.Basin {
	b := basin(wide, high)
	for i := range wide * high {
		b.Spins = append(b.Spins, float32(i*i%23)-7.25)
	}
	return b
}

// evenCells makes a basin, valid or not, with the same spin in all cells.
func evenCells(wide, high int64, spin float32) impl.Basin {
	b := basin(wide, high)
	for range wide * high {
		b.Spins = append(b.Spins, spin)
	}
	return b
}

// withSpin returns a basin with another spin in one cell.
func withSpin(b impl.Basin, i int, spin float32) impl.Basin {
	b.Spins = append([]float32{}, b.Spins...)
	b.Spins[i] = spin
	return b
}

// spinIn tells the spin at any place: the joined edges are told without the program.
func spinIn(b impl.Basin, x, y int64) float32 {
	for x < 0 {
		x += b.Wide
	}
	for y < 0 {
		y += b.High
	}
	return b.Spins[x%b.Wide+b.Wide*(y%b.High)]
}

// ofCells makes a basin of the numbers that are told for its cells.
func ofCells(wide, high int64, spin func(x, y int64) float32) impl.Basin {
	b := basin(wide, high)
	for i := range wide * high {
		b.Spins = append(b.Spins, spin(i%wide, i/wide))
	}
	return b
}

func wordsOfBasin(b impl.Basin) string {
	return wordsOf(append([]float32{float32(b.Wide), float32(b.High)}, b.Spins...))
}

// The functions toldX tell what functions of chapter 4 return, with no for a failure.

func toldBasin(b impl.Basin, ok bool) string { return told(wordsOfBasin(b), ok) }

func toldBasins(a, b impl.Basin, ok bool) string {
	return told(wordsOfBasin(a)+" "+wordsOfBasin(b), ok)
}

func toldRange(least, greatest float32, ok bool) string {
	return told(wordsOf([]float32{least, greatest}), ok)
}

// toldRun tells the sums of squares in front of the basin.
func toldRun(b impl.Basin, squares []float32, ok bool) string {
	words := wordsOfBasin(b)
	if len(squares) > 0 {
		words = wordsOf(squares) + " " + words
	}
	return told(words, ok)
}

func wantBasin(t *testing.T, what string, want impl.Basin) func(got impl.Basin, ok bool) {
	return func(got impl.Basin, ok bool) {
		t.Helper()
		wantTold(t, what, toldBasin(got, ok), wordsOfBasin(want))
	}
}

func wantNoBasin(t *testing.T, what string) func(got impl.Basin, ok bool) {
	return func(got impl.Basin, ok bool) {
		t.Helper()
		wantTold(t, what, toldBasin(got, ok), "no")
	}
}

func mustBasin(t *testing.T) func(impl.Basin, bool) impl.Basin { return must[impl.Basin](t) }

// oneBasinCalls has the functions that rows are told for with numbers, and those of a basin behind them.
func oneBasinCalls() map[string]func(in []float32, b impl.Basin) string {
	return map[string]func(in []float32, b impl.Basin) string{
		"SpinAt": func(in []float32, b impl.Basin) string { return toldNumber(impl.SpinAt(b, int64(in[0]), int64(in[1]))) },
		"PutSpin": func(in []float32, b impl.Basin) string {
			return toldBasin(impl.PutSpin(b, int64(in[0]), int64(in[1]), in[2]))
		},
		"ScaleBasin": func(in []float32, b impl.Basin) string { return toldBasin(impl.ScaleBasin(b, in[0])) },
		"RollBasin": func(in []float32, b impl.Basin) string {
			return toldBasin(impl.RollBasin(b, int64(in[0]), int64(in[1])))
		},
		"MirrorBasin":    func(_ []float32, b impl.Basin) string { return toldBasin(impl.MirrorBasin(b)) },
		"TotalInBasin":   func(_ []float32, b impl.Basin) string { return toldNumber(impl.TotalInBasin(b)) },
		"SquaresInBasin": func(_ []float32, b impl.Basin) string { return toldNumber(impl.SquaresInBasin(b)) },
		"RangeInBasin":   func(_ []float32, b impl.Basin) string { return toldRange(impl.RangeInBasin(b)) },
		"EvenOut":        func(_ []float32, b impl.Basin) string { return toldBasin(impl.EvenOut(b)) },
		"LaplaceBasin":   func(_ []float32, b impl.Basin) string { return toldBasin(impl.LaplaceBasin(b)) },
		"WaveStream":     func(_ []float32, b impl.Basin) string { return toldBasin(impl.WaveStream(b)) },
		"FlowsInBasin":   func(_ []float32, b impl.Basin) string { return toldBasins(impl.FlowsInBasin(b)) },
		"SpinAbout":      func(in []float32, b impl.Basin) string { return toldNumber(impl.SpinAbout(b, in[0], in[1])) },
		"SpreadBasin": func(in []float32, b impl.Basin) string {
			return toldBasin(impl.SpreadBasin(b, in[0], int64(in[1])))
		},
		"StepBasin": func(in []float32, b impl.Basin) string {
			return toldBasin(impl.StepBasin(b, in[0], in[1], int64(in[2])))
		},
		"RunBasin": func(in []float32, b impl.Basin) string {
			return toldRun(impl.RunBasin(b, in[0], in[1], int64(in[2]), int64(in[3])))
		},
	}
}

// basinNumbers tells how many numbers there are in front of the basins in rows.
func basinNumbers() map[string]int {
	return map[string]int{
		"SpinAt": 2, "PutSpin": 3, "ScaleBasin": 1, "RollBasin": 2, "SpinAbout": 2, "SpreadBasin": 2, "StepBasin": 3, "RunBasin": 4,
	}
}

// basinCalls has all functions of chapter 4 that rows are told for.
func basinCalls() map[string]func(in []float32) string {
	calls := map[string]func(in []float32) string{
		"FlatBasin": func(in []float32) string { return toldBasin(impl.FlatBasin(int64(in[0]), int64(in[1]), in[2])) },
		"BlobBasin": func(in []float32) string {
			return toldBasin(impl.BlobBasin(int64(in[0]), int64(in[1]), in[2], in[3], in[4], in[5]))
		},
		"AddBasins": func(in []float32) string {
			list := basinsOf(in)
			return toldBasin(impl.AddBasins(list[0], list[1]))
		},
		"SweepStream": func(in []float32) string {
			list := basinsOf(in[1:])
			return toldBasin(impl.SweepStream(list[0], list[1], int64(in[0])))
		},
		"MissOfStream": func(in []float32) string {
			list := basinsOf(in)
			return toldNumber(impl.MissOfStream(list[0], list[1]))
		},
		"CarryBasin": func(in []float32) string {
			list := basinsOf(in[1:])
			return toldBasin(impl.CarryBasin(list[0], list[1], list[2], in[0]))
		},
	}
	for name, call := range oneBasinCalls() {
		first := basinNumbers()[name]
		calls[name] = func(in []float32) string { return call(in[:first], basinsOf(in[first:])[0]) }
	}
	return calls
}
