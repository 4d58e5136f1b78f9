package tests

import (
	"testing"

	"loop.example/g01266/impl"
)

// sheetOf makes a sheet of a number that is 1 if it is closed, and the parts of a point and its spin, one after another.
func sheetOf(in []float32) impl.Sheet {
	s := impl.Sheet{Closed: in[0] == 1}
	for i := 1; i < len(in); i += 3 {
		s.Points = append(s.Points, complexOf(in, i))
		s.Spins = append(s.Spins, in[i+2])
	}
	return s
}

func openSheet(numbers ...float32) impl.Sheet { return sheetOf(append([]float32{0}, numbers...)) }

func closedSheet(numbers ...float32) impl.Sheet { return sheetOf(append([]float32{1}, numbers...)) }

// manyPoints makes a sheet, valid or not, whose points and spins have few equal ones.
func manyPoints(count int, closed bool) impl.Sheet {
	s := impl.Sheet{Closed: closed}
	for i := range count {
		s.Points = append(s.Points, complex(float32(i%7)-2.5, float32(i/7)+0.25))
		s.Spins = append(s.Spins, 0.5-float32(i%5))
	}
	return s
}

func closedOrOpen(s impl.Sheet, closed bool) impl.Sheet {
	s.Closed = closed
	return s
}

func wordsOfSheet(s impl.Sheet) string {
	all := []float32{0}
	if s.Closed {
		all[0] = 1
	}
	for i, p := range s.Points {
		all = append(all, real(p), imag(p), s.Spins[i])
	}
	return wordsOf(all)
}

// The functions toldX tell what functions of chapter 3 return, with no for a failure.

func toldSheet(s impl.Sheet, ok bool) string { return told(wordsOfSheet(s), ok) }

func toldNumbers(list []float32, ok bool) string { return told(wordsOf(list), ok) }

func toldWidest(i int64, gap float32, ok bool) string {
	return told(wordsOf([]float32{float32(i), gap}), ok)
}

// toldRolled tells the lengths in front of the sheet.
func toldRolled(s impl.Sheet, lengths []float32, ok bool) string {
	words := wordsOfSheet(s)
	if len(lengths) > 0 {
		words = wordsOf(lengths) + " " + words
	}
	return told(words, ok)
}

// toldMended tells the changes in front of the sheet.
func toldMended(s impl.Sheet, changes int64, ok bool) string {
	return told(wordsOf([]float32{float32(changes)})+" "+wordsOfSheet(s), ok)
}

func wantSheet(t *testing.T, what string, want impl.Sheet) func(got impl.Sheet, ok bool) {
	return func(got impl.Sheet, ok bool) {
		t.Helper()
		wantTold(t, what, toldSheet(got, ok), wordsOfSheet(want))
	}
}

func wantNoSheet(t *testing.T, what string) func(got impl.Sheet, ok bool) {
	return func(got impl.Sheet, ok bool) {
		t.Helper()
		wantTold(t, what, toldSheet(got, ok), "no")
	}
}

func mustSheet(t *testing.T) func(impl.Sheet, bool) impl.Sheet { return must[impl.Sheet](t) }

// sheetCalls has the functions with sheets that rows are told for: they take numbers, and those of a sheet behind them.
func sheetCalls() map[string]func(in []float32) string {
	return map[string]func(in []float32) string{
		"FlatSheet": func(in []float32) string { return toldSheet(impl.FlatSheet(int64(in[0]), in[1], in[2])) },
		"RingSheet": func(in []float32) string { return toldSheet(impl.RingSheet(int64(in[0]), in[1], in[2])) },
		"WaveSheet": func(in []float32) string { return toldSheet(impl.WaveSheet(sheetOf(in[2:]), in[0], in[1])) },
		"MoveSheet": func(in []float32) string { return toldSheet(impl.MoveSheet(sheetOf(in[2:]), complexOf(in, 0))) },
		"BackSheet": func(in []float32) string { return toldSheet(impl.BackSheet(sheetOf(in))) },
		"CutSheet":  func(in []float32) string { return toldSheet(impl.CutSheet(sheetOf(in[1:]), int64(in[0]))) },
		"SheetLong": func(in []float32) string { return toldNumber(impl.SheetLong(sheetOf(in))) },
		"SheetArea": func(in []float32) string { return toldNumber(impl.SheetArea(sheetOf(in))) },
		"SheetSpin": func(in []float32) string { return toldNumber(impl.SheetSpin(sheetOf(in))) },
		"GapsOf":    func(in []float32) string { return toldNumbers(impl.GapsOf(sheetOf(in))) },
		"WidestGap": func(in []float32) string { return toldWidest(impl.WidestGap(sheetOf(in))) },
		"BendsOf":   func(in []float32) string { return toldNumbers(impl.BendsOf(sheetOf(in))) },
		"AroundPoint": func(in []float32) string {
			return toldNumber(impl.AroundPoint(sheetOf(in[2:]), complexOf(in, 0)))
		},
		"SheetFlow": func(in []float32) string {
			return toldComplex(impl.SheetFlow(sheetOf(in[3:]), complexOf(in, 0), in[2]))
		},
		"SheetFlows": func(in []float32) string { return toldFlows(impl.SheetFlows(sheetOf(in[1:]), in[0])) },
		"StepSheet":  func(in []float32) string { return toldSheet(impl.StepSheet(sheetOf(in[2:]), in[0], in[1])) },
		"RunSheet": func(in []float32) string {
			return toldRolled(impl.RunSheet(sheetOf(in[3:]), in[0], in[1], int64(in[2])))
		},
		"SplitGap":  func(in []float32) string { return toldSheet(impl.SplitGap(sheetOf(in[1:]), int64(in[0]))) },
		"ThinPoint": func(in []float32) string { return toldSheet(impl.ThinPoint(sheetOf(in[1:]), int64(in[0]))) },
		"MendSheet": func(in []float32) string {
			return toldMended(impl.MendSheet(sheetOf(in[3:]), in[0], in[1], int64(in[2])))
		},
	}
}
