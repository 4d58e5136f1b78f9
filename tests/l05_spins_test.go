package tests

import (
	"fmt"
	"math"
	"testing"

	"loop.example/g01266/impl"
)

func wantNumbers(t *testing.T, what string, want ...float32) func(got []float32, ok bool) {
	return func(got []float32, ok bool) {
		t.Helper()
		wantTold(t, what, toldNumbers(got, ok), wordsOf(want))
	}
}

func wantNoNumbers(t *testing.T, what string) func(got []float32, ok bool) {
	return func(got []float32, ok bool) {
		t.Helper()
		wantTold(t, what, toldNumbers(got, ok), "no")
	}
}

// partOf tells the part of a complex number along another one, without the program.
func partOf(x, along complex64) float32 {
	return float32(real(x)*real(along)) + float32(imag(x)*imag(along))
}

// plateShapes has plates of all numbers of panels: flat, risen, turned and moved ones, and one that is bent.
func plateShapes(t *testing.T) []impl.Plate {
	var list []impl.Plate
	for panels := int64(1); panels <= impl.MaxPanels; panels++ {
		turns := float32(panels)*0.07 - 0.5
		arc := mustPlate(t)(impl.ArcPlate(panels, 2, 0.3-float32(panels)*0.05))
		moved := mustPlate(t)(impl.MovePlate(mustPlate(t)(impl.TurnPlate(arc, turns)), complex(0.75, -0.5)))
		list = append(list, mustPlate(t)(impl.FlatPlate(panels, 1.5, 0)), mustPlate(t)(impl.FlatPlate(panels, 0.75, turns)), arc, moved, manyPanels(int(panels)))
	}
	return list
}

// TestSquares: each number of a square is what one seat with the spin 1 does to one check, row by row.
func TestSquares(t *testing.T) {
	for i, p := range plateShapes(t) {
		seats := mustPoints(t)(impl.SeatsOf(p))
		checks := mustPoints(t)(impl.ChecksOf(p))
		normals := mustPoints(t)(impl.NormalsOf(p))
		var want []float32
		for i, check := range checks {
			for _, seat := range seats {
				flow := mustComplex(t)(impl.FlowAt([]impl.Whirl{{At: seat, Spin: 1}}, check, 0))
				want = append(want, partOf(flow, normals[i]))
			}
		}
		wantNumbers(t, fmt.Sprint("shape ", i), want...)(impl.SquareOfPlate(p))
	}
}

// TestChecksAtSeats: a plate that goes back has both checks at the other seats, which do nothing to them.
func TestChecksAtSeats(t *testing.T) {
	back := plate(0, 0, 4, 0, 0, 0)
	square := mustNumbers(t)(impl.SquareOfPlate(back))
	wantBool(t, "four numbers", len(square) == 4, true)
	wantTold(t, "the numbers of the other seats", wordsOf(square[1:3]), wordsOf([]float32{0, minusZero}))
	for _, x := range []float32{square[0], square[3]} {
		wantNear(t, "the number of the own seat", complex(x, 0), complex(float32(1/(4*math.Pi)), 0), 1e-7)
	}
	spins := mustNumbers(t)(impl.SpinsOfPlate(back, 1i, nil, 0))
	wantNear(t, "the spins", complex(spins[0], spins[1]), complex(float32(-4*math.Pi), float32(4*math.Pi)), 1e-5)
	wantTold(t, "a point at a check and a seat", toldComplex(impl.FlowByPlate(back, []float32{0, 5}, 1, 3)), wordsOf([]float32{1, 0}))
	wantTold(t, "through all of it", toldNumber(impl.WorstThrough(back, []float32{0, 0}, -3i)), wordsOf([]float32{3}))
}

// TestSquaresThatFail: a check can be so near to a seat that the flow is not finite, or so near that there is none.
func TestSquaresThatFail(t *testing.T) {
	for _, long := range []float32{4e-20, 1e-21, 1e-22} {
		short := plate(0, 0, long, 0)
		wantNoNumbers(t, "a flow that is not finite")(impl.SquareOfPlate(short))
		wantNoNumbers(t, "spins for such a flow")(impl.SpinsOfPlate(short, 1i, nil, 0))
		wantNumbers(t, "needs, of which there are some", -1)(impl.NeedsOf(short, 1i, nil, 0))
		wantTold(t, "force by such a flow", toldComplex(impl.ForceOnPlate(short, 1i, 1)), "no")
		wantNoFlight(t, "a step with such a flow")(impl.StepFlight(impl.Flight{Plate: short}, 1i, 0.5, 0.1))
		wantTold(t, "through a short plate", toldNumber(impl.WorstThrough(short, []float32{1}, 1i)), "no")
	}
	short := plate(0, 0, 4e-23, 0)
	wantNumbers(t, "nearer, where there is no flow", 0)(impl.SquareOfPlate(short))
	wantNoNumbers(t, "spins without a flow")(impl.SpinsOfPlate(short, 1i, nil, 0))
	wantTold(t, "through a plate without a flow", toldNumber(impl.WorstThrough(short, []float32{1}, 1i)), wordsOf([]float32{1}))
	wantBool(t, "a short panel", len(mustNumbers(t)(impl.SquareOfPlate(plate(0, 0, 1e-18, 0)))) == 1, true)
}

// TestNeeds: a check needs the opposite of what the wind and all wakes do to it.
func TestNeeds(t *testing.T) {
	wakes := manyWakes(impl.MaxWakes)
	for i, p := range plateShapes(t) {
		checks := mustPoints(t)(impl.ChecksOf(p))
		normals := mustPoints(t)(impl.NormalsOf(p))
		for _, core := range []float32{0, minusZero, 0.125, 20} {
			for _, wind := range []complex64{0, 1, -2i, complex(0.7, 1.3)} {
				for _, count := range []int{0, 1, 5, impl.MaxWakes} {
					var want []float32
					for i, check := range checks {
						want = append(want, -partOf(wind+mustComplex(t)(impl.FlowAt(wakes[:count], check, core)), normals[i]))
					}
					what := fmt.Sprint("shape ", i, " in the wind ", wind, " with ", count, " wakes, the core ", core)
					wantNumbers(t, what, want...)(impl.NeedsOf(p, wind, wakes[:count], core))
					square := mustNumbers(t)(impl.SquareOfPlate(p))
					spins := mustNumbers(t)(impl.SolveSquare(square, want))
					wantNumbers(t, what, spins...)(impl.SpinsOfPlate(p, wind, wakes[:count], core))
				}
			}
		}
	}
}

// TestSignsOfNeeds: zeros keep the sign that products, sums and opposites give them.
func TestSignsOfNeeds(t *testing.T) {
	flat := plate(-1, 0, 1, 0)
	wantNumbers(t, "no wind", minusZero)(impl.NeedsOf(flat, 0, nil, 0))
	wantNumbers(t, "the wind 1", minusZero)(impl.NeedsOf(flat, 1, nil, 0))
	wantNumbers(t, "a wind with -0, which becomes +0", minusZero)(impl.NeedsOf(flat, complex(1, minusZero), nil, 0))
	wantNumbers(t, "the wind 1 from behind", 0)(impl.NeedsOf(plate(1, 0, -1, 0), 1, nil, 0))
	wantNumbers(t, "up", -1)(impl.NeedsOf(flat, 1i, nil, 0))
	wantNumbers(t, "up from behind", 1)(impl.NeedsOf(plate(1, 0, -1, 0), 1i, nil, 0))
}

// TestWakesAtOnePlace: wakes at the check do nothing without a core, and neither with one; wakes at one place all count.
func TestWakesAtOnePlace(t *testing.T) {
	flat := plate(-1, 0, 1, 0)
	for _, core := range []float32{0, minusZero, 0.5} {
		wantNumbers(t, "at the check", -1)(impl.NeedsOf(flat, 1i, []impl.Whirl{whirl(0.5, 0, 3)}, core))
		spins := mustNumbers(t)(impl.SpinsOfPlate(flat, 1i, nil, 0))
		wantNumbers(t, "spins at the check", spins...)(impl.SpinsOfPlate(flat, 1i, []impl.Whirl{whirl(0.5, 0, 3)}, core))
	}
	wantNumbers(t, "at the seat", -1)(impl.NeedsOf(flat, 0, []impl.Whirl{whirl(-0.5, 0, turn)}, 0))
	wantNumbers(t, "at the seat with a core", -0.5)(impl.NeedsOf(flat, 0, []impl.Whirl{whirl(-0.5, 0, turn)}, 1))
	wantNumbers(t, "two at the seat", -3)(impl.NeedsOf(flat, 0, []impl.Whirl{whirl(-0.5, 0, turn), whirl(-0.5, 0, 2*turn)}, 0))
	wantNumbers(t, "two that are nothing together", minusZero)(impl.NeedsOf(flat, 0, []impl.Whirl{whirl(-0.5, 0, turn), whirl(-0.5, 0, -turn)}, 0))
	wantNumbers(t, "the opposite of the wake", -turn)(impl.SpinsOfPlate(flat, 0, []impl.Whirl{whirl(-0.5, 0, turn)}, 0))
}

// TestOddNeeds: winds and wakes are finite, cores at least 0, and there are at most MaxWakes wakes.
func TestOddNeeds(t *testing.T) {
	p := manyPanels(3)
	want := func(what string, wind complex64, wakes []impl.Whirl, core float32) {
		t.Helper()
		wantNoNumbers(t, "needs with "+what)(impl.NeedsOf(p, wind, wakes, core))
		wantNoNumbers(t, "spins with "+what)(impl.SpinsOfPlate(p, wind, wakes, core))
	}
	want("one wake more", 1, manyWakes(impl.MaxWakes+1), 0)
	want("as many wakes as whirls", 1, manyWakes(impl.MaxWhirls), 0)
	want("very many wakes", 1, make([]impl.Whirl, 5000), 0)
	for _, core := range oddSizes() {
		want("an odd core", 1, nil, core)
		want("an odd core and wakes", 1, manyWakes(2), core)
	}
	for _, odd := range oddTicks() {
		want("an odd wind", complex(odd, 0), nil, 0)
		want("an odd wind up", complex(1, odd), manyWakes(1), 0)
		for _, i := range []int{0, 4} {
			for _, w := range []impl.Whirl{whirl(odd, 1, 1), whirl(1, odd, 1), whirl(1, 1, odd)} {
				wakes := manyWakes(5)
				wakes[i] = w
				want("an odd wake", 1, wakes, 1)
			}
		}
	}
	flat := plate(-1, 0, 1, 0)
	wantNoNumbers(t, "a wake too near")(impl.NeedsOf(flat, 1, []impl.Whirl{whirl(0.5, 1e-20, 1e20)}, 0))
	wantNoNumbers(t, "a sum that is too great")(impl.NeedsOf(flat, complex(0, 3e38), []impl.Whirl{whirl(-0.5, 0, 3e38)}, 0.1))
	wantNoNumbers(t, "spins that are too great")(impl.SpinsOfPlate(flat, complex(0, 3e38), nil, 0))
	wantNumbers(t, "the greatest needs", -3e38)(impl.NeedsOf(flat, complex(0, 3e38), nil, 0))
}

func TestSolvedSquares(t *testing.T) {
	wantNumbers(t, "one number", -2.5)(impl.SolveSquare([]float32{-2}, []float32{5}))
	wantNumbers(t, "the greatest one below", 2, 1)(impl.SolveSquare([]float32{0, 2, 4, 0}, []float32{2, 8}))
	wantNumbers(t, "a zero with a sign", 2, 1)(impl.SolveSquare([]float32{minusZero, 2, 4, 0}, []float32{2, 8}))
	wantNumbers(t, "three", 1, -2, 3)(impl.SolveSquare([]float32{1, 1, 1, 0, 2, 1, 4, 0, -1}, []float32{2, -1, 1}))
	// With the other row, which is as good, it would be 1 and 1 here, and 0 and 1 there.
	wantNumbers(t, "the first of equal numbers", 0, 1)(impl.SolveSquare([]float32{1, 1e8, 1, 1}, []float32{1e8, 2}))
	wantNumbers(t, "the first of equal numbers, the other way round", 1, 1)(impl.SolveSquare([]float32{1, 1, 1, 1e8}, []float32{2, 1e8}))
	wantNumbers(t, "the first of opposite numbers", minusZero, 1)(impl.SolveSquare([]float32{-1, -1e8, 1, 1}, []float32{-1e8, 2}))
	wantNumbers(t, "the greatest absolute value", 1, 1)(impl.SolveSquare([]float32{1, 1e8, -2, -2}, []float32{1e8, -4}))
	wantNumbers(t, "zeros of b", 0, minusZero)(impl.SolveSquare([]float32{1, 0, 0, -1}, []float32{0, 0}))
	for n := 1; n <= impl.MaxPanels; n++ {
		square, list, want := make([]float32, n*n), make([]float32, n), make([]float32, n)
		for i := range n {
			// Each row has one number, in another column.
			j := (i + n/2) % n
			square[i*n+j], want[j] = float32(j)-20, float32(3*i%7)-2.5
			list[i] = square[i*n+j] * want[j]
		}
		wantNumbers(t, fmt.Sprint(n, " numbers"), want...)(impl.SolveSquare(square, list))
	}
}

// TestSquaresWithoutSolutions: a column with nothing greater than 0 left makes it fail.
func TestSquaresWithoutSolutions(t *testing.T) {
	for _, zero := range []float32{0, minusZero} {
		wantNoNumbers(t, "0")(impl.SolveSquare([]float32{zero}, []float32{1}))
		wantNoNumbers(t, "0 for 0")(impl.SolveSquare([]float32{zero}, []float32{0}))
		wantNoNumbers(t, "the first column")(impl.SolveSquare([]float32{zero, 1, zero, 2}, []float32{1, 1}))
		wantNoNumbers(t, "the last column")(impl.SolveSquare([]float32{1, zero, 2, zero}, []float32{1, 1}))
		wantNoNumbers(t, "a column in the middle")(impl.SolveSquare([]float32{1, 1, 1, 1, 1, 2, 1, 1, 3}, []float32{1, 1, zero}))
		for n := 1; n <= impl.MaxPanels; n++ {
			square := make([]float32, n*n)
			for i := range square {
				square[i] = zero
			}
			wantNoNumbers(t, fmt.Sprint("only zeros, ", n))(impl.SolveSquare(square, make([]float32, n)))
		}
	}
	wantNoNumbers(t, "equal rows")(impl.SolveSquare([]float32{1, 2, 1, 2}, []float32{1, 2}))
	wantNoNumbers(t, "a quotient that is not finite")(impl.SolveSquare([]float32{at(1)}, []float32{1}))
	wantNumbers(t, "a quotient of the least numbers", 2)(impl.SolveSquare([]float32{at(1)}, []float32{at(2)}))
}

// TestSquaresThatAreNotFiniteOnTheWay: infinities can be taken, and divide to 0; not-a-numbers are taken after all others, and spoil the result.
func TestSquaresThatAreNotFiniteOnTheWay(t *testing.T) {
	wantNumbers(t, "an infinity in the last column", 5, 0)(impl.SolveSquare([]float32{1, 3e38, -1, 3e38}, []float32{5, 7}))
	wantNumbers(t, "its opposite", 5, minusZero)(impl.SolveSquare([]float32{1, -3e38, -1, -3e38}, []float32{5, 7}))
	wantNumbers(t, "an infinity behind another row", 5, 0, 4)(impl.SolveSquare([]float32{1, 3e38, 0, -1, 3e38, 0, 0, 1, 2}, []float32{5, 7, 8}))
	// The second and the third row have infinities, of which the first one is taken; the other one becomes a not-a-number.
	wantNoNumbers(t, "two infinities")(impl.SolveSquare([]float32{1, 3e38, 0, -1, 3e38, 1, -1, 3e38, 2}, []float32{5, 7, 8}))
	// An infinity that is taken away 0 times leaves a not-a-number in the last column.
	wantNoNumbers(t, "a not-a-number in the last column")(impl.SolveSquare([]float32{1, 0, 3e38, -1, 1, 3e38, 0, 0, 1}, []float32{1, 1, 1}))
	wantNoNumbers(t, "an infinity of b")(impl.SolveSquare([]float32{1, 0, -1, 1}, []float32{3e38, 3e38}))
	wantNoNumbers(t, "a not-a-number above")(impl.SolveSquare([]float32{1, 3e38, 3e38, 0, -1, 3e38, 3e38, 1, -1, -3e38, 1, 2, 0, 0, 1, 1}, []float32{1, 1, 1, 1}))
}

// TestOddSquares: a square of n n numbers belongs to a list of n numbers, from 1 to MaxPanels, and all are finite.
func TestOddSquares(t *testing.T) {
	ones := func(count int) []float32 {
		list := make([]float32, count)
		for i := range list {
			list[i] = 1
		}
		return list
	}
	for _, sizes := range [][2]int{{0, 0}, {0, 1}, {1, 0}, {2, 1}, {1, 2}, {2, 2}, {3, 2}, {5, 2}, {4, 3}, {4, 4}, {8, 3}, {10, 3}, {16, 16}, {9, 2}, {256, 15}, {256, 17}, {255, 16}, {257, 16}, {5000, 3}, {4, 5000}} {
		wantNoNumbers(t, fmt.Sprint(sizes))(impl.SolveSquare(ones(sizes[0]), ones(sizes[1])))
	}
	wantNoNumbers(t, "nil")(impl.SolveSquare(nil, nil))
	for n := 1; n <= impl.MaxPanels+2; n++ {
		square := make([]float32, n*n)
		for i := range n {
			square[i*n+i] = 2
		}
		if n > impl.MaxPanels {
			wantNoNumbers(t, fmt.Sprint(n, " numbers"))(impl.SolveSquare(square, ones(n)))
			continue
		}
		half := ones(n)
		for i := range half {
			half[i] = 0.5
		}
		wantNumbers(t, fmt.Sprint(n, " numbers"), half...)(impl.SolveSquare(square, ones(n)))
	}
	for _, odd := range oddTicks() {
		for i := range 4 {
			square := []float32{2, 1, 1, 2}
			square[i] = odd
			wantNoNumbers(t, "an odd square")(impl.SolveSquare(square, []float32{0, 0}))
		}
		wantNoNumbers(t, "an odd number first")(impl.SolveSquare([]float32{2, 0, 0, 2}, []float32{odd, 0}))
		wantNoNumbers(t, "an odd number last")(impl.SolveSquare([]float32{2, 0, 0, 2}, []float32{0, odd}))
	}
	// Lists that are solved stay as they are.
	square, list := []float32{0, 2, 4, 0}, []float32{2, 8}
	solved := mustNumbers(t)(impl.SolveSquare(square, list))
	solved[0] = 99
	wantNumbers(t, "the square", 0, 2, 4, 0)(square, true)
	wantNumbers(t, "the list", 2, 8)(list, true)
}

// TestFlowsByPlates: they are those of the wind and of whirls at the seats.
func TestFlowsByPlates(t *testing.T) {
	for i, p := range plateShapes(t) {
		seats := mustPoints(t)(impl.SeatsOf(p))
		checks := mustPoints(t)(impl.ChecksOf(p))
		normals := mustPoints(t)(impl.NormalsOf(p))
		spins := manySpins(len(seats))
		var list []impl.Whirl
		for i, seat := range seats {
			list = append(list, impl.Whirl{At: seat, Spin: spins[i]})
		}
		for _, wind := range []complex64{0, complex(minusZero, -2), complex(0.7, 1.3)} {
			what := fmt.Sprint("shape ", i, " in the wind ", wind)
			for _, point := range []complex64{9, complex(-0.1, 0.3), seats[0], checks[len(checks)-1]} {
				flow := wind + mustComplex(t)(impl.FlowAt(list, point, 0))
				wantTold(t, what, toldComplex(impl.FlowByPlate(p, spins, wind, point)), wordsOf(parts(flow)))
			}
			var worst float32
			for i, check := range checks {
				part := partOf(mustComplex(t)(impl.FlowByPlate(p, spins, wind, check)), normals[i])
				worst = max(worst, part, -part)
			}
			wantTold(t, what, toldNumber(impl.WorstThrough(p, spins, wind)), wordsOf([]float32{worst}))
		}
	}
}

func TestWorstThrough(t *testing.T) {
	flat := plate(-1, 0, 1, 0)
	wantTold(t, "with the wind", toldNumber(impl.WorstThrough(flat, []float32{turn}, 1i)), wordsOf([]float32{2}))
	wantTold(t, "against the wind", toldNumber(impl.WorstThrough(flat, []float32{turn}, -1i)), "00000000")
	wantTold(t, "less than 0", toldNumber(impl.WorstThrough(flat, []float32{-turn}, -2i)), wordsOf([]float32{3}))
	wantTold(t, "along the plate", toldNumber(impl.WorstThrough(flat, []float32{minusZero}, -1)), "00000000")
	// Of two panels, one is along the wind, and the other one across it.
	corner := plate(0, 0, 1, 0, 1, 1)
	for _, wind := range []float32{3, -3} {
		wantTold(t, "the last one", toldNumber(impl.WorstThrough(corner, []float32{0, 0}, complex(wind, 0.5))), wordsOf([]float32{3}))
		wantTold(t, "the first one", toldNumber(impl.WorstThrough(corner, []float32{0, 0}, complex(0.5, wind))), wordsOf([]float32{3}))
	}
	wantTold(t, "too much", toldNumber(impl.WorstThrough(plate(0, 0, 1, 1), []float32{0}, complex(3e38, -3e38))), "no")
}

// callsWithSpins has the functions that require spins, with a plate of three panels.
func callsWithSpins() map[string]func(spins []float32) string {
	p := manyPanels(3)
	return map[string]func(spins []float32) string{
		"WorstThrough": func(spins []float32) string { return toldNumber(impl.WorstThrough(p, spins, 1)) },
		"PressuresOf":  func(spins []float32) string { return toldNumbers(impl.PressuresOf(p, spins)) },
		"FlowByPlate":  func(spins []float32) string { return toldComplex(impl.FlowByPlate(p, spins, 1, 9)) },
	}
}

// TestOddSpins: spins are finite, and as many as panels.
func TestOddSpins(t *testing.T) {
	for name, call := range callsWithSpins() {
		if got := call([]float32{1, 2, 3}); got == "no" {
			t.Errorf("%s fails", name)
		}
		for _, count := range []int{0, 1, 2, 4, 16, 17, 300} {
			wantTold(t, fmt.Sprint(name, " of ", count, " spins"), call(make([]float32, count)), "no")
		}
		wantTold(t, name+" of nil", call(nil), "no")
		for _, odd := range oddTicks() {
			for i := range 3 {
				spins := []float32{1, 2, 3}
				spins[i] = odd
				wantTold(t, name+" of odd spins", call(spins), "no")
			}
		}
	}
	p, spins := manyPanels(3), []float32{1, 2, 3}
	for _, odd := range oddTicks() {
		for _, x := range []complex64{complex(odd, 0), complex(0, odd)} {
			wantTold(t, "an odd wind", toldComplex(impl.FlowByPlate(p, spins, x, 9)), "no")
			wantTold(t, "an odd point", toldComplex(impl.FlowByPlate(p, spins, 9, x)), "no")
			wantTold(t, "an odd wind through", toldNumber(impl.WorstThrough(p, spins, x)), "no")
			wantTold(t, "the force of an odd wind", toldComplex(impl.ForceOnPlate(p, x, 1)), "no")
			wantTold(t, "no force of an odd wind", toldComplex(impl.ForceOnPlate(p, x, 0)), "no")
		}
	}
	wantTold(t, "a flow that is not finite", toldComplex(impl.FlowByPlate(plate(-1, 0, 1, 0), []float32{3e38}, 0, complex(-0.5, 1e-3))), "no")
	wantTold(t, "a sum that is not finite", toldComplex(impl.FlowByPlate(plate(-1, 0, 1, 0), []float32{3e38}, complex(0, 3.3e38), 0.5)), "no")
}

func TestForces(t *testing.T) {
	for i, p := range plateShapes(t) {
		for _, wind := range []complex64{0, 1, -2i, complex(0.7, 1.3)} {
			var sum float32
			for _, spin := range mustNumbers(t)(impl.SpinsOfPlate(p, wind, nil, 0)) {
				sum += spin
			}
			for _, density := range []float32{0, minusZero, 1, 1.3, 1000} {
				lift := float32(density * sum)
				want := complex(float32(lift*imag(wind)), float32(-lift*real(wind)))
				wantTold(t, fmt.Sprint("shape ", i, " in the wind ", wind), toldComplex(impl.ForceOnPlate(p, wind, density)), wordsOf(parts(want)))
			}
		}
		for _, odd := range oddSizes() {
			wantTold(t, "an odd density", toldComplex(impl.ForceOnPlate(p, 1, odd)), "no")
		}
	}
	flat := plate(-1, 0, 1, 0)
	wantTold(t, "no wind", toldComplex(impl.ForceOnPlate(flat, 0, 1)), wordsOf([]float32{0, minusZero}))
	wantTold(t, "too dense", toldComplex(impl.ForceOnPlate(flat, complex(1, 1), 3e38)), "no")
	wantTold(t, "too windy", toldComplex(impl.ForceOnPlate(flat, complex(0, 1e30), 1)), "no")
	wantTold(t, "too windy for spins, without density", toldComplex(impl.ForceOnPlate(flat, complex(0, 3e38), 0)), "no")
	// The spins are finite, but not their sum: nothing becomes finite by a density of 0.
	arc := mustPlate(t)(impl.FlatPlate(4, 2, 0))
	wind := complex(float32(0), float32(7e37))
	spins := mustNumbers(t)(impl.SpinsOfPlate(arc, wind, nil, 0))
	wantBool(t, "the sum", math.IsInf(float64(spins[0]+spins[1]+spins[2]+spins[3]), -1), true)
	wantTold(t, "a sum that is not finite", toldComplex(impl.ForceOnPlate(arc, wind, 0)), "no")
}
