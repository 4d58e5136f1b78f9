package tests

import (
	"fmt"
	"math"
	"math/cmplx"
	"testing"

	"loop.example/g01266/impl"
)

// longFlow tells the flow of whirls in long numbers, without the program.
func longFlow(list []impl.Whirl, at complex128, core float64) complex128 {
	var sum complex128
	for _, w := range list {
		d := at - complex128(w.At)
		if q := real(d)*real(d) + imag(d)*imag(d) + core*core; q > 0 {
			sum += d * complex(0, float64(w.Spin)/(2*math.Pi*q))
		}
	}
	return sum
}

// worstOf tells how much flows through a plate in long numbers, of its spins, the wind and wakes together.
func worstOf(p impl.Plate, spins []float32, wind complex64, wakes []impl.Whirl, core float32) float64 {
	var bound []impl.Whirl
	for i, spin := range spins {
		from, to := p.Corners[i], p.Corners[i+1]
		bound = append(bound, impl.Whirl{At: from + (to-from)/4, Spin: spin})
	}
	worst := 0.0
	for i := range spins {
		from, way := complex128(p.Corners[i]), complex128(p.Corners[i+1]-p.Corners[i])
		check := from + way*0.75
		flow := complex128(wind) + longFlow(bound, check, 0) + longFlow(wakes, check, float64(core))
		across := way * 1i / complex(cmplx.Abs(way), 0)
		worst = math.Max(worst, math.Abs(real(flow)*real(across)+imag(flow)*imag(across)))
	}
	return worst
}

func winds() []complex64 {
	return []complex64{1, -1, 1i, -2i, complex(0.7, 1.3), complex(-20, 0.5), complex(1e-3, -1e-3)}
}

func sumOf(list []float32) float32 {
	sum := 0.0
	for _, x := range list {
		sum += float64(x)
	}
	return float32(sum)
}

// wantLess checks that a number, which must be one, is at most most.
func wantLess(t *testing.T, what string, got, most float64) {
	t.Helper()
	if !(got <= most) {
		t.Errorf("%s: got %v, more than %v", what, got, most)
	}
}

// TestPromise6Through: nothing flows through a plate with its spins, nearly, without wakes and with them.
func TestPromise6Through(t *testing.T) {
	for i, p := range plateShapes(t) {
		for _, wind := range winds() {
			what := fmt.Sprint("shape ", i, " in the wind ", wind)
			most := 1e-4 * cmplx.Abs(complex128(wind))
			spins := mustNumbers(t)(impl.SpinsOfPlate(p, wind, nil, 0))
			wantLess(t, what, float64(mustNumber(t)(impl.WorstThrough(p, spins, wind))), most)
			wantLess(t, what+", in long numbers", worstOf(p, spins, wind, nil, 0), most)
			for _, core := range []float32{0, 0.5} {
				for _, count := range []int{1, 5, impl.MaxWakes} {
					wakes := manyWakes(count)
					spins := mustNumbers(t)(impl.SpinsOfPlate(p, wind, wakes, core))
					wantLess(t, fmt.Sprint(what, " with ", count, " wakes"), worstOf(p, spins, wind, wakes, core), most+1e-4)
				}
			}
		}
	}
}

// TestPromise6Needed: without its spins, or with others, something flows through a plate.
func TestPromise6Needed(t *testing.T) {
	for i, p := range plateShapes(t) {
		what := fmt.Sprint("shape ", i)
		wind := complex64(complex(0.7, 1.3))
		spins := mustNumbers(t)(impl.SpinsOfPlate(p, wind, nil, 0))
		without := mustNumber(t)(impl.WorstThrough(p, make([]float32, len(spins)), wind))
		wantLess(t, what+" without spins", 0.1, float64(without))
		wantLess(t, what+" without spins, in long numbers", math.Abs(float64(without)-worstOf(p, make([]float32, len(spins)), wind, nil, 0)), 1e-5)
		for k := range spins {
			spins[k]++
			wantLess(t, what+" with another spin", 0.05, float64(mustNumber(t)(impl.WorstThrough(p, spins, wind))))
			spins[k]--
		}
	}
}

// TestPromise6Known: flat plates have the spin and the force that their length and the wind across them tell, however many panels there are.
func TestPromise6Known(t *testing.T) {
	for panels := int64(1); panels <= impl.MaxPanels; panels++ {
		for _, long := range []float32{0.5, 2, 3} {
			for _, turns := range []float32{0, 0.1, -0.3} {
				p := mustPlate(t)(impl.FlatPlate(panels, long, turns))
				for _, wind := range winds() {
					what := fmt.Sprint(panels, " panels, ", long, " long, with ", turns, " turns in the wind ", wind)
					angle := 2 * math.Pi * float64(turns)
					across := imag(complex128(wind) * cmplx.Rect(1, -angle))
					want := -math.Pi * float64(long) * across
					most := 1e-4 * cmplx.Abs(complex128(wind)) * float64(long)
					spin := sumOf(mustNumbers(t)(impl.SpinsOfPlate(p, wind, nil, 0)))
					wantNear(t, what, complex(spin, 0), complex(float32(want), 0), most)
					force := complex64(complex(1.5*want, 0) * complex(imag(complex128(wind)), -real(complex128(wind))))
					wantNear(t, what+", the force", mustComplex(t)(impl.ForceOnPlate(p, wind, 1.5)), force, 2*most*cmplx.Abs(complex128(wind)))
				}
			}
		}
	}
}

// TestPromise6Likenesses: moved and turned plates have the same spins in moved and turned winds, nearly, greater ones have greater ones, and mirrored ones opposite ones.
func TestPromise6Likenesses(t *testing.T) {
	for i, p := range plateShapes(t) {
		for _, wind := range winds() {
			what := fmt.Sprint("shape ", i, " in the wind ", wind)
			size := cmplx.Abs(complex128(wind))
			spins := mustNumbers(t)(impl.SpinsOfPlate(p, wind, nil, 0))
			moved := mustPlate(t)(impl.MovePlate(p, complex(0.5, -1)))
			turned := mustPlate(t)(impl.TurnPlate(p, 0.15))
			var mirrored, greater impl.Plate
			for _, corner := range p.Corners {
				mirrored.Corners = append(mirrored.Corners, impl.ConjugateOf(corner))
				greater.Corners = append(greater.Corners, impl.ScaleComplex(corner, 2))
			}
			ofMoved := mustNumbers(t)(impl.SpinsOfPlate(moved, wind, nil, 0))
			ofTurned := mustNumbers(t)(impl.SpinsOfPlate(turned, impl.MulComplex(wind, impl.PhasorOf(0.15)), nil, 0))
			ofMirrored := mustNumbers(t)(impl.SpinsOfPlate(mirrored, impl.ConjugateOf(wind), nil, 0))
			ofGreater := mustNumbers(t)(impl.SpinsOfPlate(greater, wind, nil, 0))
			for k, spin := range spins {
				wantNear(t, what+", moved", complex(ofMoved[k], 0), complex(spin, 0), 1e-3*size)
				wantNear(t, what+", turned", complex(ofTurned[k], 0), complex(spin, 0), 1e-3*size)
				wantNear(t, what+", mirrored", complex(ofMirrored[k], 0), complex(-spin, 0), 1e-3*size)
				wantNear(t, what+", greater", complex(ofGreater[k], 0), complex(2*spin, 0), 1e-3*size)
			}
		}
	}
}

// greatestSum tells the sum of the absolute values of all spins of a flight, by which sums of them are rounded.
func greatestSum(f impl.Flight) float64 {
	sum := math.Abs(float64(f.Spin))
	for _, wake := range f.Wakes {
		sum += math.Abs(float64(wake.Spin))
	}
	return sum
}

// TestPromise6Flights: a flight has no spin together, nearly, as long as no wake is left out, and then it has the opposite of what is left out.
func TestPromise6Flights(t *testing.T) {
	for i, p := range plateShapes(t) {
		for _, w := range []flightWeather{{complex(1, 0.2), 0.2, 0.1}, {complex(2, -1), 0.3, 0.25}, {1i, 0.5, 0.05}, {complex(1, 1), 0.1, 0}} {
			f := mustFlight(t)(impl.NewFlight(p))
			left, greatest, shed := 0.0, 0.0, 0.0
			for steps := range impl.MaxWakes + 6 {
				if len(f.Wakes) == impl.MaxWakes {
					left += float64(f.Wakes[0].Spin)
				}
				f = mustFlight(t)(impl.StepFlight(f, w.wind, w.core, w.tick))
				greatest = max(greatest, greatestSum(f))
				shed = max(shed, math.Abs(float64(f.Spin)))
				what := fmt.Sprint("shape ", i, " in ", w, ", ", steps+1, " steps")
				wantLess(t, what, math.Abs(float64(mustNumber(t)(impl.AllSpin(f)))+left), 1e-6*float64(steps+1)*greatest)
				wantBool(t, what+", as many wakes", len(f.Wakes) == min(steps+1, impl.MaxWakes), true)
				wantBool(t, what+", none left out", left == 0, steps < impl.MaxWakes)
			}
			wantLess(t, fmt.Sprint("shape ", i, " in ", w, ", there is some spin"), 0.05, shed)
		}
	}
}

// TestPromise6Runs: runs of flights have no spin together, nearly, and where wakes go away fast, the spin of a flat plate comes near to that without wakes.
func TestPromise6Runs(t *testing.T) {
	for _, panels := range []int64{1, 4, 12} {
		for _, turns := range []float32{-0.02, 0.01} {
			what := fmt.Sprint(panels, " panels, ", turns, " turns")
			p := mustPlate(t)(impl.FlatPlate(panels, 1, turns))
			f, spins, ok := impl.RunFlight(mustFlight(t)(impl.NewFlight(p)), 1, 0.05, 2, impl.MaxWakes)
			wantBool(t, what, ok && len(spins) == impl.MaxWakes, true)
			wantLess(t, what, math.Abs(float64(mustNumber(t)(impl.AllSpin(f)))), 1e-6)
			last := math.Pi * math.Sin(2*math.Pi*float64(turns))
			for k, spin := range spins[4:] {
				wantLess(t, fmt.Sprint(what, ", step ", k+5), math.Abs(float64(spin)-last), 0.2*math.Abs(last))
			}
			wantLess(t, what+", the last step", math.Abs(float64(f.Spin)-last), 0.02*math.Abs(last))
		}
	}
}
