package tests

import (
	"fmt"
	"math"
	"slices"
	"testing"

	"loop.example/g01266/impl"
)

// withFlights has the functions that require flights, with other arguments that are valid.
func withFlights() map[string]func(f impl.Flight) string {
	return map[string]func(f impl.Flight) string{
		"AllSpin":             func(f impl.Flight) string { return toldNumber(impl.AllSpin(f)) },
		"StepFlight":          func(f impl.Flight) string { return toldFlight(impl.StepFlight(f, 1, 0.5, 0.1)) },
		"StepFlight, no tick": func(f impl.Flight) string { return toldFlight(impl.StepFlight(f, 0, 0.5, 0)) },
		"RunFlight":           func(f impl.Flight) string { return toldFlown(impl.RunFlight(f, 1, 0.5, 0.1, 2)) },
		"RunFlight, no steps": func(f impl.Flight) string { return toldFlown(impl.RunFlight(f, 1, 0.5, 0.1, 0)) },
	}
}

// oddFlights has flights whose plates, wakes or spins are not valid.
func oddFlights() []impl.Flight {
	list := []impl.Flight{{}, {Wakes: []impl.Whirl{}}, manyFlights(3, impl.MaxWakes+1), manyFlights(3, impl.MaxWhirls), manyFlights(3, 5000)}
	for _, p := range oddPlates() {
		list = append(list, impl.Flight{Plate: p}, impl.Flight{Plate: p, Wakes: manyWakes(3), Spin: 1})
	}
	for _, odd := range oddTicks() {
		f := manyFlights(2, 5)
		f.Spin = odd
		list = append(list, f, impl.Flight{Plate: manyPanels(1), Spin: odd})
		for _, i := range []int{0, 4} {
			for _, w := range []impl.Whirl{whirl(odd, 1, 1), whirl(1, odd, 1), whirl(1, 1, odd)} {
				f := manyFlights(2, 5)
				f.Wakes[i] = w
				list = append(list, f)
			}
		}
	}
	return list
}

// TestOddFlights: no function takes a flight that is not valid.
func TestOddFlights(t *testing.T) {
	for i, f := range oddFlights() {
		wantBool(t, fmt.Sprint("flight ", i), impl.ValidFlight(f), false)
		for name, call := range withFlights() {
			wantTold(t, fmt.Sprint(name, " of flight ", i), call(f), "no")
		}
	}
}

// TestValidFlights: there are 1 to MaxPanels panels and at most MaxWakes wakes, and all functions take them.
func TestValidFlights(t *testing.T) {
	for panels := 1; panels <= impl.MaxPanels; panels++ {
		for wakes := 0; wakes <= impl.MaxWakes; wakes++ {
			f := manyFlights(panels, wakes)
			wantBool(t, fmt.Sprint(panels, " panels and ", wakes, " wakes"), impl.ValidFlight(f), true)
			for name, call := range withFlights() {
				if got := call(f); got == "no" {
					t.Errorf("%s fails with %d panels and %d wakes", name, panels, wakes)
				}
			}
		}
	}
	far := impl.Flight{Plate: manyPanels(1), Wakes: []impl.Whirl{whirl(3e38, -3e38, 3e38)}, Spin: -3e38}
	wantBool(t, "finite numbers", impl.ValidFlight(far), true)
}

func TestSameFlights(t *testing.T) {
	a := impl.Flight{Plate: plate(1, minusZero, at(0x7f800001), 2), Wakes: []impl.Whirl{whirl(at(infinity), 0, at(0xffc00000))}, Spin: at(noNumber)}
	b := impl.Flight{Plate: plate(1, minusZero, at(noNumber), 2), Wakes: []impl.Whirl{whirl(at(infinity), 0, at(0x7f800001))}, Spin: at(0xffffffff)}
	wantBool(t, "not-a-numbers", impl.SameFlight(a, b), true)
	empty := impl.Flight{Plate: impl.Plate{Corners: []complex64{}}, Wakes: []impl.Whirl{}}
	wantBool(t, "nil and empty", impl.SameFlight(impl.Flight{}, empty), true)
	wantBool(t, "too many of all", impl.SameFlight(manyFlights(40, 50), manyFlights(40, 50)), true)
	whole := manyFlights(3, 4)
	wantBool(t, "less panels", impl.SameFlight(whole, manyFlights(2, 4)), false)
	wantBool(t, "more panels", impl.SameFlight(whole, manyFlights(4, 4)), false)
	wantBool(t, "less wakes", impl.SameFlight(whole, manyFlights(3, 3)), false)
	wantBool(t, "more wakes", impl.SameFlight(whole, manyFlights(3, 5)), false)
	for i := range whole.Plate.Corners {
		other := impl.Flight{Plate: withCorner(whole.Plate, i, 99), Wakes: whole.Wakes, Spin: whole.Spin}
		wantBool(t, "another corner", impl.SameFlight(whole, other), false)
	}
	for i := range whole.Wakes {
		other := manyFlights(3, 4)
		other.Wakes[i].Spin++
		wantBool(t, "another spin of a wake", impl.SameFlight(whole, other), false)
		other = manyFlights(3, 4)
		other.Wakes[i].At++
		wantBool(t, "another wake", impl.SameFlight(other, whole), false)
	}
	for _, a := range edgeBits {
		for _, b := range edgeBits {
			wantBool(t, "the spin", impl.SameFlight(impl.Flight{Spin: at(a)}, impl.Flight{Spin: at(b)}), bitsOf(at(a)) == bitsOf(at(b)))
		}
	}
}

func TestNewFlights(t *testing.T) {
	for _, p := range plateShapes(t) {
		wantFlight(t, "a new flight", impl.Flight{Plate: p})(impl.NewFlight(p))
		wantTold(t, "all of its spin", toldNumber(impl.AllSpin(mustFlight(t)(impl.NewFlight(p)))), "00000000")
	}
}

func TestAllSpin(t *testing.T) {
	spun := func(spin float32, wakes ...float32) impl.Flight {
		f := impl.Flight{Plate: manyPanels(2), Spin: spin}
		for i, wake := range wakes {
			f.Wakes = append(f.Wakes, whirl(float32(i), 1, wake))
		}
		return f
	}
	wantTold(t, "a sum", toldNumber(impl.AllSpin(spun(0.5, 1, 2, -0.25))), wordsOf([]float32{3.25}))
	wantTold(t, "-0", toldNumber(impl.AllSpin(spun(minusZero, minusZero))), "00000000")
	wantTold(t, "-0 alone", toldNumber(impl.AllSpin(spun(minusZero))), "00000000")
	// In another order, the sum is 1 more, or not finite.
	wantTold(t, "wakes in order", toldNumber(impl.AllSpin(spun(0, 16777216, 1, -16777216))), "00000000")
	wantTold(t, "Spin last", toldNumber(impl.AllSpin(spun(-16777216, 16777216, 1))), "00000000")
	wantTold(t, "finite in order", toldNumber(impl.AllSpin(spun(3e38, 3e38, -3e38))), wordsOf([]float32{3e38}))
	wantTold(t, "not finite on the way", toldNumber(impl.AllSpin(spun(-3e38, 3e38, 3e38))), "no")
	wantTold(t, "not finite", toldNumber(impl.AllSpin(spun(3e38, 3e38))), "no")
}

// flightWeather is what flights are run with.
type flightWeather struct {
	wind       complex64
	core, tick float32
}

func flightWeathers() []flightWeather {
	return []flightWeather{
		{complex(1, 0.1), 0.25, 0.1}, {complex(-0.7, 1.3), 0, 0.05}, {0, 1, 0.3}, {complex(2, -0.5), minusZero, 0}, {1, 0.1, minusZero}, {-3i, 0.5, 1e-3},
	}
}

// stepApart makes a step of the parts of which it is made.
func stepApart(t *testing.T, f impl.Flight, w flightWeather) impl.Flight {
	t.Helper()
	spins := mustNumbers(t)(impl.SpinsOfPlate(f.Plate, w.wind, f.Wakes, w.core))
	behind := impl.Flight{Plate: f.Plate}
	for _, spin := range spins {
		behind.Spin += spin
	}
	for i, wake := range f.Wakes {
		others := slices.Concat(f.Wakes[:i], f.Wakes[i+1:])
		flow := mustComplex(t)(impl.FlowByPlate(f.Plate, spins, w.wind, wake.At)) + mustComplex(t)(impl.FlowAt(others, wake.At, w.core))
		moved := wake.At + complex(float32(real(flow)*w.tick), float32(imag(flow)*w.tick))
		behind.Wakes = append(behind.Wakes, impl.Whirl{At: moved, Spin: wake.Spin})
	}
	half := w.tick / 2
	end := f.Plate.Corners[len(f.Plate.Corners)-1] + complex(float32(real(w.wind)*half), float32(imag(w.wind)*half))
	behind.Wakes = append(behind.Wakes, impl.Whirl{At: end, Spin: f.Spin - behind.Spin})
	if len(behind.Wakes) > impl.MaxWakes {
		behind.Wakes = behind.Wakes[1:]
	}
	return behind
}

// TestFlightSteps: steps are made of their parts, and a step with MaxWakes wakes leaves the first one out.
func TestFlightSteps(t *testing.T) {
	for _, w := range flightWeathers() {
		for _, panels := range []int{1, 2, 5, impl.MaxPanels} {
			for _, wakes := range []int{0, 1, 2, 7, impl.MaxWakes - 1, impl.MaxWakes} {
				f := manyFlights(panels, wakes)
				what := fmt.Sprint(panels, " panels and ", wakes, " wakes in ", w)
				want := stepApart(t, f, w)
				if len(want.Wakes) != min(wakes+1, impl.MaxWakes) {
					t.Errorf("%s: %d wakes behind a step", what, len(want.Wakes))
				}
				wantFlight(t, what, want)(impl.StepFlight(f, w.wind, w.core, w.tick))
				wantTold(t, what, toldFlown(impl.RunFlight(f, w.wind, w.core, w.tick, 1)), toldFlown(want, []float32{want.Spin}, true))
			}
		}
	}
}

// TestFirstSteps: a flight without wakes leaves the opposite of its spin behind its last corner.
func TestFirstSteps(t *testing.T) {
	flat := plate(-1, 0, 1, 0)
	f := mustFlight(t)(impl.NewFlight(flat))
	spin := mustNumbers(t)(impl.SpinsOfPlate(flat, complex(1, -1), nil, 0))[0]
	want := impl.Flight{Plate: flat, Wakes: []impl.Whirl{whirl(1.5, -0.5, -spin)}, Spin: spin}
	wantFlight(t, "a step", want)(impl.StepFlight(f, complex(1, -1), 0, 1))
	want.Wakes[0].At = 1
	wantFlight(t, "a step without a tick", want)(impl.StepFlight(f, complex(1, -1), 0, 0))
	wantFlight(t, "a step with the tick -0", want)(impl.StepFlight(f, complex(1, -1), 5, minusZero))
	wantFlight(t, "no spin", impl.Flight{Plate: flat, Wakes: []impl.Whirl{whirl(1.5, 0, 0)}})(impl.StepFlight(f, 1, 0, 1))
	spun := impl.Flight{Plate: flat, Spin: 3}
	wantFlight(t, "the spin from before", impl.Flight{Plate: flat, Wakes: []impl.Whirl{whirl(1.5, 0, 3)}})(impl.StepFlight(spun, 1, 0, 1))
	wantFlight(t, "the spin -0", impl.Flight{Plate: flat, Wakes: []impl.Whirl{whirl(1.5, 0, minusZero)}})(impl.StepFlight(impl.Flight{Plate: flat, Spin: minusZero}, 1, 0, 1))
}

// TestWakesOnThePlate: wakes at seats and checks, and some at one place, are moved by all others but those where they are.
func TestWakesOnThePlate(t *testing.T) {
	flat := plate(-1, 0, 1, 0)
	for _, w := range flightWeathers() {
		for _, places := range [][]complex64{{-0.5}, {0.5}, {-0.5, 0.5}, {-0.5, -0.5}, {0.5, 0.5, 0.5}, {1i, 1i, -0.5, 1i}} {
			f := impl.Flight{Plate: flat}
			for i, place := range places {
				f.Wakes = append(f.Wakes, impl.Whirl{At: place, Spin: float32(i) - 1.5})
			}
			wantFlight(t, fmt.Sprint("wakes at ", places, " in ", w), stepApart(t, f, w))(impl.StepFlight(f, w.wind, w.core, w.tick))
		}
	}
	// The wake at the seat is moved by the wind alone, though it has given the plate its spin.
	f := impl.Flight{Plate: flat, Wakes: []impl.Whirl{whirl(-0.5, 0, turn)}, Spin: -turn}
	want := impl.Flight{Plate: flat, Wakes: []impl.Whirl{whirl(0.5, 0, turn), whirl(1.5, 0, 0)}, Spin: -turn}
	wantFlight(t, "a wake at the seat", want)(impl.StepFlight(f, 1, 0, 1))
}

func TestOddWeather(t *testing.T) {
	for _, f := range []impl.Flight{manyFlights(1, 0), manyFlights(3, 4), manyFlights(2, impl.MaxWakes)} {
		for _, steps := range []int64{0, 1, 3} {
			want := func(what string, wind complex64, core, tick float32) {
				t.Helper()
				wantNoFlight(t, "a step with "+what)(impl.StepFlight(f, wind, core, tick))
				wantTold(t, fmt.Sprint(steps, " steps with ", what), toldFlown(impl.RunFlight(f, wind, core, tick, steps)), "no")
			}
			for _, odd := range oddTicks() {
				want("an odd wind", complex(odd, 0), 0.5, 0.1)
				want("an odd wind up", complex(0, odd), 0.5, 0.1)
			}
			for _, odd := range append(oddSizes(), -0.5, -3e38) {
				want("an odd core", 1, odd, 0.1)
				want("an odd tick", 1, 0.5, odd)
			}
		}
	}
}

// TestFlightRuns: a run makes steps, from none to MaxTicks, and tells Spin behind each of them.
func TestFlightRuns(t *testing.T) {
	for _, w := range flightWeathers() {
		for _, panels := range []int{1, 6} {
			f := manyFlights(panels, 3)
			behind, spins := f, []float32{}
			what := fmt.Sprint(panels, " panels in ", w)
			for steps := int64(0); steps <= impl.MaxTicks; steps++ {
				wantTold(t, fmt.Sprint(what, ", ", steps, " steps"), toldFlown(impl.RunFlight(f, w.wind, w.core, w.tick, steps)), toldFlown(behind, spins, true))
				behind = mustFlight(t)(impl.StepFlight(behind, w.wind, w.core, w.tick))
				spins = append(spins, behind.Spin)
			}
			if len(behind.Wakes) != impl.MaxWakes {
				t.Errorf("%s: %d wakes behind a run", what, len(behind.Wakes))
			}
			for _, steps := range []int64{-1, impl.MaxTicks + 1, math.MaxInt64, math.MinInt64, 1 << 32} {
				wantTold(t, fmt.Sprint(steps, " steps"), toldFlown(impl.RunFlight(f, w.wind, w.core, w.tick, steps)), "no")
			}
		}
	}
}

// TestFlightsThatFail: a step fails where its parts do, or where what is left of it is not valid.
func TestFlightsThatFail(t *testing.T) {
	flat := plate(-1, 0, 1, 0)
	still := impl.Flight{Plate: flat}
	wantNoFlight(t, "too windy")(impl.StepFlight(still, complex(0, 3e38), 0, 1))
	wantNoFlight(t, "a wake that is put too far away")(impl.StepFlight(still, 1e20, 0, 1e20))
	wantNoFlight(t, "a wake with too much spin")(impl.StepFlight(impl.Flight{Plate: flat, Spin: 3.4e38}, complex(0, 1e37), 0, 0))
	near := impl.Flight{Plate: flat, Wakes: []impl.Whirl{whirl(9, 0, 1e38), whirl(9, 1e-3, 1e-3)}}
	wantNoFlight(t, "wakes that are too near")(impl.StepFlight(near, 1, 0, 0))
	wantBool(t, "wakes with a core", impl.ValidFlight(mustFlight(t)(impl.StepFlight(near, 1, 1, 0))), true)
	seated := impl.Flight{Plate: flat, Wakes: []impl.Whirl{whirl(-0.5, 1e-20, 1)}}
	wantNoFlight(t, "a wake too near to a seat")(impl.StepFlight(seated, 1i, 1, 0))
	wantNoFlight(t, "spins that are not finite together")(impl.StepFlight(impl.Flight{Plate: mustPlate(t)(impl.FlatPlate(4, 2, 0))}, complex(0, 7e37), 0, 0))
	far := impl.Flight{Plate: flat, Wakes: []impl.Whirl{whirl(3.4e38, 0, 0)}}
	wantNoFlight(t, "a wake that is moved too far")(impl.StepFlight(far, 1e20, 0, 1e17))
	_, spins, ok := impl.RunFlight(still, 1e19, 0, 3e19, 1)
	wantBool(t, "a first step far away", ok && len(spins) == 1, true)
	wantTold(t, "a second step too far away", toldFlown(impl.RunFlight(still, 1e19, 0, 3e19, 2)), "no")
}

// TestFirstWakeLeftOut: where the first wake is left out, it does not matter how far it is moved, but it matters that its flow is finite.
func TestFirstWakeLeftOut(t *testing.T) {
	flat := plate(-1, 0, 1, 0)
	full := impl.Flight{Plate: flat, Wakes: append([]impl.Whirl{whirl(3.4e38, 0, 0)}, manyWakes(impl.MaxWakes-1)...)}
	behind := mustFlight(t)(impl.StepFlight(full, 1e20, 0, 1e17))
	wantBool(t, "as many wakes", len(behind.Wakes) == impl.MaxWakes, true)
	wantBool(t, "the second one first", behind.Wakes[0].Spin == full.Wakes[1].Spin, true)
	full.Wakes = full.Wakes[:impl.MaxWakes-1]
	wantNoFlight(t, "one wake less")(impl.StepFlight(full, 1e20, 0, 1e17))
	near := impl.Flight{Plate: flat, Wakes: append([]impl.Whirl{whirl(-0.5, 1e-20, 1)}, manyWakes(impl.MaxWakes-1)...)}
	wantNoFlight(t, "a first wake too near to a seat")(impl.StepFlight(near, 1i, 1, 0))
}

// TestFlightsStay: flights of which others are made stay as they are.
func TestFlightsStay(t *testing.T) {
	f := manyFlights(3, 4)
	step := mustFlight(t)(impl.StepFlight(f, 1, 0.5, 0.1))
	run, _, _ := impl.RunFlight(f, 1, 0.5, 0.1, 0)
	for _, made := range []impl.Flight{step, run} {
		made.Plate.Corners[0], made.Wakes[0].Spin = 99, 99
	}
	wantFlight(t, "the flight", manyFlights(3, 4))(f, true)
}
