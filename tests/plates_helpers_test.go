package tests

import (
	"testing"

	"loop.example/g01266/impl"
)

func plate(numbers ...float32) impl.Plate { return impl.Plate{Corners: complexList(numbers)} }

// countedPlate makes a plate of the number of its corners and their parts, and returns the numbers behind them.
func countedPlate(in []float32) (impl.Plate, []float32) {
	end := 1 + 2*int(in[0])
	return plate(in[1:end]...), in[end:]
}

// flightOf makes a flight of its spin, its plate as in countedPlate, and its wakes.
func flightOf(in []float32) impl.Flight {
	p, wakes := countedPlate(in[1:])
	return impl.Flight{Plate: p, Wakes: whirlsOf(wakes), Spin: in[0]}
}

// manyPanels makes a plate, valid or not, whose panels have few equal lengths and ways.
func manyPanels(panels int) impl.Plate {
	var p impl.Plate
	for i := range panels + 1 {
		p.Corners = append(p.Corners, complex(float32(i)*0.5-2, float32(i*i%7)*0.125-0.25))
	}
	return p
}

// withCorner returns a plate with another corner.
func withCorner(p impl.Plate, i int, corner complex64) impl.Plate {
	p.Corners = append([]complex64{}, p.Corners...)
	p.Corners[i] = corner
	return p
}

// manyWakes makes wakes, as many as asked for, that are not near to one another.
func manyWakes(count int) []impl.Whirl {
	var list []impl.Whirl
	for i := range count {
		list = append(list, whirl(float32(i)*0.75+9, float32(i%3)-1, 0.125*float32(i%5)-0.2))
	}
	return list
}

func manyFlights(panels, wakes int) impl.Flight {
	return impl.Flight{Plate: manyPanels(panels), Wakes: manyWakes(wakes), Spin: -0.75}
}

// manySpins makes spins of which few are equal.
func manySpins(count int) []float32 {
	var list []float32
	for i := range count {
		list = append(list, float32(i*i%11)*0.375-1.25)
	}
	return list
}

func wordsOfPlate(p impl.Plate) string { return toldFlows(p.Corners, true) }

func wordsOfFlight(f impl.Flight) string {
	words := wordsOf([]float32{f.Spin, float32(len(f.Plate.Corners))})
	if len(f.Plate.Corners) > 0 {
		words += " " + wordsOfPlate(f.Plate)
	}
	if len(f.Wakes) > 0 {
		words += " " + wordsOfWhirls(f.Wakes)
	}
	return words
}

// The functions toldX tell what functions of chapter 5 return, with no for a failure.

func toldBool(is bool) string {
	if is {
		return "3f800000"
	}
	return "00000000"
}

func toldPlate(p impl.Plate, ok bool) string { return told(wordsOfPlate(p), ok) }

func toldFlight(f impl.Flight, ok bool) string { return told(wordsOfFlight(f), ok) }

// toldFlown tells the spins in front of the flight.
func toldFlown(f impl.Flight, spins []float32, ok bool) string {
	words := wordsOfFlight(f)
	if len(spins) > 0 {
		words = wordsOf(spins) + " " + words
	}
	return told(words, ok)
}

func wantPlate(t *testing.T, what string, want impl.Plate) func(got impl.Plate, ok bool) {
	return func(got impl.Plate, ok bool) {
		t.Helper()
		wantTold(t, what, toldPlate(got, ok), wordsOfPlate(want))
	}
}

func wantNoPlate(t *testing.T, what string) func(got impl.Plate, ok bool) {
	return func(got impl.Plate, ok bool) {
		t.Helper()
		wantTold(t, what, toldPlate(got, ok), "no")
	}
}

func wantFlight(t *testing.T, what string, want impl.Flight) func(got impl.Flight, ok bool) {
	return func(got impl.Flight, ok bool) {
		t.Helper()
		wantTold(t, what, toldFlight(got, ok), wordsOfFlight(want))
	}
}

func wantNoFlight(t *testing.T, what string) func(got impl.Flight, ok bool) {
	return func(got impl.Flight, ok bool) {
		t.Helper()
		wantTold(t, what, toldFlight(got, ok), "no")
	}
}

func mustPlate(t *testing.T) func(impl.Plate, bool) impl.Plate { return must[impl.Plate](t) }

func mustFlight(t *testing.T) func(impl.Flight, bool) impl.Flight { return must[impl.Flight](t) }

func mustNumbers(t *testing.T) func([]float32, bool) []float32 { return must[[]float32](t) }

func mustPoints(t *testing.T) func([]complex64, bool) []complex64 { return must[[]complex64](t) }

// plateCalls has all functions of chapter 5 that rows are told for.
func plateCalls() map[string]func(in []float32) string {
	calls := map[string]func(in []float32) string{
		"ValidPlate":    func(in []float32) string { return toldBool(impl.ValidPlate(plate(in...))) },
		"FlatPlate":     func(in []float32) string { return toldPlate(impl.FlatPlate(int64(in[0]), in[1], in[2])) },
		"ArcPlate":      func(in []float32) string { return toldPlate(impl.ArcPlate(int64(in[0]), in[1], in[2])) },
		"MovePlate":     func(in []float32) string { return toldPlate(impl.MovePlate(plate(in[2:]...), complexOf(in, 0))) },
		"TurnPlate":     func(in []float32) string { return toldPlate(impl.TurnPlate(plate(in[1:]...), in[0])) },
		"PlateLong":     func(in []float32) string { return toldNumber(impl.PlateLong(plate(in...))) },
		"SeatsOf":       func(in []float32) string { return toldFlows(impl.SeatsOf(plate(in...))) },
		"ChecksOf":      func(in []float32) string { return toldFlows(impl.ChecksOf(plate(in...))) },
		"NormalsOf":     func(in []float32) string { return toldFlows(impl.NormalsOf(plate(in...))) },
		"SquareOfPlate": func(in []float32) string { return toldNumbers(impl.SquareOfPlate(plate(in...))) },
		"SolveSquare": func(in []float32) string {
			end := 1 + int(in[0]*in[0])
			return toldNumbers(impl.SolveSquare(in[1:end], in[end:]))
		},
		"ForceOnPlate": func(in []float32) string {
			return toldComplex(impl.ForceOnPlate(plate(in[3:]...), complexOf(in, 0), in[2]))
		},
		"AllSpin": func(in []float32) string { return toldNumber(impl.AllSpin(flightOf(in))) },
		"StepFlight": func(in []float32) string {
			return toldFlight(impl.StepFlight(flightOf(in[4:]), complexOf(in, 0), in[2], in[3]))
		},
		"RunFlight": func(in []float32) string {
			return toldFlown(impl.RunFlight(flightOf(in[5:]), complexOf(in, 0), in[2], in[3], int64(in[4])))
		},
	}
	for name, call := range countedCalls() {
		first := countedNumbers()[name]
		calls[name] = func(in []float32) string {
			p, more := countedPlate(in[first:])
			return call(in[:first], p, more)
		}
	}
	return calls
}

// countedCalls has the functions whose rows have numbers, then a plate as in countedPlate, and then wakes or spins.
func countedCalls() map[string]func(in []float32, p impl.Plate, more []float32) string {
	return map[string]func(in []float32, p impl.Plate, more []float32) string{
		"NeedsOf": func(in []float32, p impl.Plate, wakes []float32) string {
			return toldNumbers(impl.NeedsOf(p, complexOf(in, 0), whirlsOf(wakes), in[2]))
		},
		"SpinsOfPlate": func(in []float32, p impl.Plate, wakes []float32) string {
			return toldNumbers(impl.SpinsOfPlate(p, complexOf(in, 0), whirlsOf(wakes), in[2]))
		},
		"WorstThrough": func(in []float32, p impl.Plate, spins []float32) string {
			return toldNumber(impl.WorstThrough(p, spins, complexOf(in, 0)))
		},
		"PressuresOf": func(_ []float32, p impl.Plate, spins []float32) string {
			return toldNumbers(impl.PressuresOf(p, spins))
		},
		"FlowByPlate": func(in []float32, p impl.Plate, spins []float32) string {
			return toldComplex(impl.FlowByPlate(p, spins, complexOf(in, 0), complexOf(in, 2)))
		},
	}
}

// countedNumbers tells how many numbers there are in front of the plates.
func countedNumbers() map[string]int {
	return map[string]int{"NeedsOf": 3, "SpinsOfPlate": 3, "WorstThrough": 2, "PressuresOf": 0, "FlowByPlate": 4}
}
