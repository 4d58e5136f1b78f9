package tests

import (
	"fmt"
	"math"
	"testing"

	"loop.example/g01266/impl"
)

func TestConstantsOfChapter5(t *testing.T) {
	if got := fmt.Sprint(impl.MaxPanels, impl.MaxWakes); got != "16 24" {
		t.Errorf("constants: got %s", got)
	}
}

// TestExamplesOfChapter5 asserts every example at the end of chapter 5.
func TestExamplesOfChapter5(t *testing.T) {
	p := mustPlate(t)(impl.FlatPlate(1, 2, 0))
	wantPlate(t, "a flat plate", plate(-1, 0, 1, 0))(p, true)
	wantTold(t, "the seat", toldFlows(impl.SeatsOf(p)), wordsOf([]float32{-0.5, 0}))
	wantTold(t, "the check", toldFlows(impl.ChecksOf(p)), wordsOf([]float32{0.5, 0}))
	wantTold(t, "the normal", toldFlows(impl.NormalsOf(p)), wordsOf([]float32{minusZero, 1}))
	for _, core := range []float32{0, minusZero, 2.5} {
		for _, list := range [][]float32{mustNumbers(t)(impl.NeedsOf(p, 1, nil, core)), mustNumbers(t)(impl.SpinsOfPlate(p, 1, nil, core))} {
			wantBool(t, "nothing in the wind 1", len(list) == 1 && list[0] == 0, true)
		}
	}
}

func TestPlateRows(t *testing.T) {
	rows, calls := plateRows(), plateCalls()
	if len(rows) != len(calls) {
		t.Fatalf("%d functions with rows, %d that can be called", len(rows), len(calls))
	}
	for name, call := range calls {
		wantToldRows(t, name, rows[name], call)
	}
}

// spinsFor makes as many spins as a plate has panels, if it has any.
func spinsFor(p impl.Plate) []float32 { return manySpins(max(0, len(p.Corners)-1)) }

// withPlates has the functions that require plates, with other arguments that are valid for those.
func withPlates() map[string]func(p impl.Plate) string {
	return map[string]func(p impl.Plate) string{
		"MovePlate":     func(p impl.Plate) string { return toldPlate(impl.MovePlate(p, complex(1, -2))) },
		"TurnPlate":     func(p impl.Plate) string { return toldPlate(impl.TurnPlate(p, 0.3)) },
		"PlateLong":     func(p impl.Plate) string { return toldNumber(impl.PlateLong(p)) },
		"SeatsOf":       func(p impl.Plate) string { return toldFlows(impl.SeatsOf(p)) },
		"ChecksOf":      func(p impl.Plate) string { return toldFlows(impl.ChecksOf(p)) },
		"NormalsOf":     func(p impl.Plate) string { return toldFlows(impl.NormalsOf(p)) },
		"SquareOfPlate": func(p impl.Plate) string { return toldNumbers(impl.SquareOfPlate(p)) },
		"NeedsOf":       func(p impl.Plate) string { return toldNumbers(impl.NeedsOf(p, 1i, nil, 0.5)) },
		"SpinsOfPlate":  func(p impl.Plate) string { return toldNumbers(impl.SpinsOfPlate(p, 1i, nil, 0.5)) },
		"WorstThrough":  func(p impl.Plate) string { return toldNumber(impl.WorstThrough(p, spinsFor(p), 1i)) },
		"ForceOnPlate":  func(p impl.Plate) string { return toldComplex(impl.ForceOnPlate(p, 1i, 2)) },
		"PressuresOf":   func(p impl.Plate) string { return toldNumbers(impl.PressuresOf(p, spinsFor(p))) },
		"FlowByPlate":   func(p impl.Plate) string { return toldComplex(impl.FlowByPlate(p, spinsFor(p), 1i, 9)) },
		"NewFlight":     func(p impl.Plate) string { return toldFlight(impl.NewFlight(p)) },
		"AllSpin":       func(p impl.Plate) string { return toldNumber(impl.AllSpin(impl.Flight{Plate: p})) },
		"StepFlight":    func(p impl.Plate) string { return toldFlight(impl.StepFlight(impl.Flight{Plate: p}, 1i, 0.5, 0.1)) },
		"RunFlight":     func(p impl.Plate) string { return toldFlown(impl.RunFlight(impl.Flight{Plate: p}, 1i, 0.5, 0.1, 0)) },
	}
}

// oddPlates has plates with too few and too many corners, with panels without length or whose length is not finite, and with odd numbers.
func oddPlates() []impl.Plate {
	list := []impl.Plate{
		{}, {Corners: []complex64{}}, manyPanels(0), manyPanels(impl.MaxPanels + 1), manyPanels(5000), plate(0, 0, 0, 0), plate(1, -2, 1, -2),
		plate(0, 0, minusZero, 0), plate(0, minusZero, minusZero, 0), plate(1, minusZero, 1, 0), plate(minusZero, 3, 0, 3), plate(0, 0, 1, 0, 1, minusZero),
		plate(3e38, 0, -3e38, 0), plate(0, -2e38, 0, 2e38), plate(0, 0, 3e38, 3e38), plate(0, 0, 3e38, -3e38), plate(1.5e38, 1.5e38, -1.5e38, -1.5e38),
	}
	whole := manyPanels(6)
	for i := range 6 {
		list = append(list, withCorner(whole, i+1, whole.Corners[i]), withCorner(whole, i, complex(3e38, 3e38)))
	}
	for _, odd := range oddTicks() {
		for i := range 7 {
			list = append(list, withCorner(whole, i, complex(odd, 1)), withCorner(whole, i, complex(1, odd)))
		}
	}
	return list
}

// TestOddPlates: no function takes a plate that is not valid.
func TestOddPlates(t *testing.T) {
	for i, p := range oddPlates() {
		wantBool(t, fmt.Sprint("plate ", i), impl.ValidPlate(p), false)
		for name, call := range withPlates() {
			wantTold(t, fmt.Sprint(name, " of plate ", i), call(p), "no")
		}
	}
}

// TestValidPlates: there are 1 to MaxPanels panels, and all functions take them.
func TestValidPlates(t *testing.T) {
	for panels := 1; panels <= impl.MaxPanels; panels++ {
		p := manyPanels(panels)
		wantBool(t, fmt.Sprint(panels, " panels"), impl.ValidPlate(p), true)
		for name, call := range withPlates() {
			if got := call(p); got == "no" {
				t.Errorf("%s fails with %d panels", name, panels)
			}
		}
	}
	edges := []impl.Plate{
		plate(0, 0, at(1), 0), plate(0, at(signBit+1), 0, 0), plate(at(1), at(1), at(1), minusZero), plate(1, 1, math.Nextafter32(1, 2), 1),
		plate(at(0x7f7fffff), 0, 0, 0), plate(1.7e38, 0, -1.7e38, 0), plate(3e38, 3e38, 3e38, 0), plate(2.4e38, 2.4e38, 0, 0),
		plate(0, 0, 1, 0, 0, 0), plate(0, 0, 1, 0, 2, 0, 1, 0, 0, 0),
	}
	for i, p := range edges {
		wantBool(t, fmt.Sprint("edge ", i), impl.ValidPlate(p), true)
		what := fmt.Sprint("edge ", i, ", as it is")
		wantPlate(t, what, p)(impl.MovePlate(p, complex(minusZero, minusZero)))
		wantFlight(t, what, impl.Flight{Plate: p})(impl.NewFlight(p))
	}
}

func TestSamePlates(t *testing.T) {
	a := plate(1, minusZero, at(0x7f800001), at(infinity), 5, 6)
	b := plate(1, minusZero, at(0xffc00000), at(infinity), 5, 6)
	wantBool(t, "not-a-numbers", impl.SamePlate(a, b), true)
	wantBool(t, "nil and empty", impl.SamePlate(impl.Plate{}, impl.Plate{Corners: []complex64{}}), true)
	wantBool(t, "too many corners", impl.SamePlate(manyPanels(300), manyPanels(300)), true)
	wantBool(t, "less corners", impl.SamePlate(a, impl.Plate{Corners: b.Corners[:2]}), false)
	wantBool(t, "more corners", impl.SamePlate(impl.Plate{Corners: a.Corners[:2]}, b), false)
	wantBool(t, "no corners", impl.SamePlate(impl.Plate{}, b), false)
	wantBool(t, "the last of too many corners", impl.SamePlate(manyPanels(300), withCorner(manyPanels(300), 300, 99)), false)
	whole := manyPanels(impl.MaxPanels)
	for i, corner := range whole.Corners {
		wantBool(t, "another x", impl.SamePlate(whole, withCorner(whole, i, corner+1)), false)
		wantBool(t, "another y", impl.SamePlate(withCorner(whole, i, corner-1i), whole), false)
	}
	for _, a := range edgeBits {
		for _, b := range edgeBits {
			same := bitsOf(at(a)) == bitsOf(at(b))
			wantBool(t, "the x", impl.SamePlate(plate(at(a), 2), plate(at(b), 2)), same)
			wantBool(t, "the y", impl.SamePlate(plate(2, at(a)), plate(2, at(b))), same)
		}
	}
}

// oddPanels are less than 1, or more than MaxPanels.
func oddPanels() []int64 {
	return []int64{0, -1, impl.MaxPanels + 1, math.MaxInt64, math.MinInt64, 1<<32 + 1, -1 << 32}
}

func TestFlatPlates(t *testing.T) {
	for panels := int64(1); panels <= impl.MaxPanels; panels++ {
		for _, long := range []float32{1, 2.75, 1e-30, 3e38, 0.1} {
			var want impl.Plate
			for k := range panels + 1 {
				share := float32(k)/float32(panels) - 0.5
				want.Corners = append(want.Corners, complex(float32(long*share), 0))
			}
			what := fmt.Sprint(panels, " panels, ", long, " long")
			wantPlate(t, what, want)(impl.FlatPlate(panels, long, 0))
			wantPlate(t, what, want)(impl.FlatPlate(panels, long, minusZero))
			for _, turns := range []float32{0.1, -0.25, 0.5, 7.3, 3e38} {
				turned := mustPlate(t)(impl.TurnPlate(want, turns))
				wantPlate(t, fmt.Sprint(what, ", ", turns, " turns"), turned)(impl.FlatPlate(panels, long, turns))
			}
		}
	}
	wantPlate(t, "a quarter turn", plate(minusZero, -1, 0, 0, 0, 1))(impl.FlatPlate(2, 2, 0.25))
	wantPlate(t, "half a turn", plate(1, minusZero, -1, 0))(impl.FlatPlate(1, 2, 0.5))
	wantPlate(t, "the least length", plate(at(signBit+1), 0, at(1), 0))(impl.FlatPlate(1, at(2), 0))
	for _, panels := range oddPanels() {
		wantNoPlate(t, fmt.Sprint(panels, " panels"))(impl.FlatPlate(panels, 1, 0))
		wantNoPlate(t, fmt.Sprint("an arc of ", panels, " panels"))(impl.ArcPlate(panels, 1, 1))
	}
	for _, odd := range append(oddLengths(), -3e38) {
		wantNoPlate(t, fmt.Sprint(odd, " long"))(impl.FlatPlate(2, odd, 0))
		wantNoPlate(t, fmt.Sprint("an arc ", odd, " long"))(impl.ArcPlate(2, odd, 1))
	}
	for _, odd := range oddTicks() {
		wantNoPlate(t, "odd turns")(impl.FlatPlate(2, 1, odd))
	}
	// Corners that come to one place leave a panel without length.
	wantNoPlate(t, "half of the least number")(impl.FlatPlate(1, at(1), 0))
	wantNoPlate(t, "more panels than numbers")(impl.FlatPlate(8, at(3), 0))
	wantPlate(t, "as many panels as numbers", plate(at(signBit+2), 0, at(signBit+1), 0, 0, 0, at(1), 0, at(2), 0))(impl.FlatPlate(4, at(3), 0))
}

func TestArcs(t *testing.T) {
	wantPlate(t, "a rise of 1", plate(-1, 0, 0, 1, 1, 0))(impl.ArcPlate(2, 2, 1))
	wantPlate(t, "a rise of -2", plate(-2, 0, -1, -1.5, 0, -2, 1, -1.5, 2, 0))(impl.ArcPlate(4, 4, -2))
	wantPlate(t, "one panel does not rise", plate(-1, 0, 1, 0))(impl.ArcPlate(1, 2, 3e38))
	wantPlate(t, "one panel does not fall", plate(-1, 0, 1, 0))(impl.ArcPlate(1, 2, -5))
	for panels := int64(1); panels <= impl.MaxPanels; panels++ {
		flat := mustPlate(t)(impl.FlatPlate(panels, 1.5, 0))
		for _, rise := range []float32{0, minusZero, 0.3, -0.7, 100, at(1)} {
			want := impl.Plate{}
			for k, corner := range flat.Corners {
				q := float32(k)/float32(panels) - 0.5
				squares := float32(float32(4*q) * q)
				want.Corners = append(want.Corners, corner+complex(0, float32(rise*(1-squares))))
			}
			wantPlate(t, fmt.Sprint(panels, " panels, the rise ", rise), want)(impl.ArcPlate(panels, 1.5, rise))
		}
	}
	for _, odd := range oddTicks() {
		wantNoPlate(t, "an odd rise")(impl.ArcPlate(2, 1, odd))
		wantNoPlate(t, "an odd rise of one panel")(impl.ArcPlate(1, 1, odd))
	}
	wantNoPlate(t, "panels that are too long")(impl.ArcPlate(2, 3e38, 3.4e38))
}

// The arc alone must be valid: the flat plate of which it is told may have panels without length.
func TestArcsOverShortPlates(t *testing.T) {
	least := at(1)
	wantPlate(t, "an arc over one place", plate(0, 0, 0, 1, 0, 0))(impl.ArcPlate(2, least, 1))
	wantPlate(t, "a long arc over one place", plate(0, 0, 0, 3e38, 0, 0))(impl.ArcPlate(2, least, 3e38))
	wantPlate(t, "an arc over three places", plate(-least, 0, 0, 1.5, 0, 2, 0, 1.5, least, 0))(impl.ArcPlate(4, 2*least, 2))
	wantPlate(t, "the least arc", plate(0, 0, 0, least, 0, 0))(impl.ArcPlate(2, least, least))
	// The real part of i times a number less than 0 is -0.
	wantPlate(t, "an arc under one place", plate(minusZero, 0, 0, -1, 0, 0))(impl.ArcPlate(2, least, -1))
	for _, panels := range []int64{1, 2, 8, impl.MaxPanels} {
		wantNoPlate(t, fmt.Sprint(panels, " panels at one place"))(impl.ArcPlate(panels, least, 0))
		wantNoPlate(t, fmt.Sprint(panels, " panels at one place, -0"))(impl.ArcPlate(panels, least, minusZero))
	}
	wantNoPlate(t, "one panel at one place")(impl.ArcPlate(1, least, 1))
	wantNoPlate(t, "an arc that rises too little for its panels")(impl.ArcPlate(impl.MaxPanels, least, least))
	wantNoPlate(t, "an arc whose middle panel has no length")(impl.ArcPlate(3, 2*least, 2*least))
}

func TestMovedPlates(t *testing.T) {
	wantPlate(t, "moved", plate(2, 1, 4, minusZero+1, 5, 3))(impl.MovePlate(plate(-1, 3, 1, 3, 2, 5), complex(3, -2)))
	wantPlate(t, "zeros", plate(0, 0, 1, minusZero))(impl.MovePlate(plate(minusZero, 0, 1, minusZero), complex(0, minusZero)))
	near := plate(1, 0, math.Nextafter32(1, 2), 0)
	wantNoPlate(t, "moved to one place")(impl.MovePlate(near, 100))
	wantNoPlate(t, "moved to one place far above")(impl.MovePlate(plate(0, 0, 0, 1, 5, 5), complex(0, 1e9)))
	wantPlate(t, "moved aside", plate(1, 100, math.Nextafter32(1, 2), 100))(impl.MovePlate(near, complex(0, 100)))
	wantNoPlate(t, "moved too far")(impl.MovePlate(plate(2e38, 0, 3e38, 0), 1e38))
	wantNoPlate(t, "moved too far down")(impl.MovePlate(plate(0, -2e38, 0, 0), complex(0, -2e38)))
	for _, odd := range oddTicks() {
		wantNoPlate(t, "an odd x")(impl.MovePlate(near, complex(odd, 0)))
		wantNoPlate(t, "an odd y")(impl.MovePlate(near, complex(0, odd)))
	}
}

func TestTurnedPlates(t *testing.T) {
	p := plate(1, 2, -3, 4, 0, minusZero)
	wantPlate(t, "a quarter turn", plate(-2, 1, -4, -3, 0, 0))(impl.TurnPlate(p, 0.25))
	wantPlate(t, "a quarter turn back", plate(2, -1, 4, 3, 0, minusZero))(impl.TurnPlate(p, -0.25))
	wantPlate(t, "no turn", plate(1, 2, -3, 4, 0, 0))(impl.TurnPlate(p, 0))
	for _, turns := range []float32{0.1, -3.7, 1e-30, 100.125, 8388607.5, 3e38} {
		phasor := impl.PhasorOf(float64(turns))
		want := impl.Plate{}
		for _, corner := range p.Corners {
			want.Corners = append(want.Corners, impl.MulComplex(corner, phasor))
		}
		wantPlate(t, fmt.Sprint(turns, " turns"), want)(impl.TurnPlate(p, turns))
	}
	wantNoPlate(t, "turned to one place")(impl.TurnPlate(plate(1, 0, 1, 1e-9), 0.125))
	wantPlate(t, "turned by a quarter", plate(0, 1, -1e-9, 1))(impl.TurnPlate(plate(1, 0, 1, 1e-9), 0.25))
	wantNoPlate(t, "turned too far")(impl.TurnPlate(plate(3e38, 3e38, 3e38, 2e38), -0.125))
	for _, odd := range oddTicks() {
		wantNoPlate(t, "odd turns")(impl.TurnPlate(p, odd))
	}
}

// TestPanels: panels go from each corner to the next one, and have seats, checks, normals and lengths.
func TestPanels(t *testing.T) {
	p := plate(0, 0, 3, 4, 3, 0, minusZero, minusZero)
	wantTold(t, "how long", toldNumber(impl.PlateLong(p)), wordsOf([]float32{12}))
	wantTold(t, "seats", toldFlows(impl.SeatsOf(p)), wordsOf([]float32{0.75, 1, 3, 3, 2.25, 0}))
	wantTold(t, "checks", toldFlows(impl.ChecksOf(p)), wordsOf([]float32{2.25, 3, 3, 1, 0.75, 0}))
	fifth := float32(1) / 5
	third := float32(1) / 3
	wantNormals := []float32{float32(-4 * fifth), float32(3 * fifth), 1, 0, 0, float32(-3 * third)}
	wantTold(t, "normals", toldFlows(impl.NormalsOf(p)), wordsOf(wantNormals))
	wantTold(t, "pressures", toldNumbers(impl.PressuresOf(p, []float32{10, minusZero, -1})), wordsOf([]float32{2, minusZero, -third}))
	// In the other order, the sum is 16777218.
	wantTold(t, "lengths in order", toldNumber(impl.PlateLong(plate(0, 0, 16777216, 0, 16777216, 1, 16777216, 0))), wordsOf([]float32{16777216}))
	wantTold(t, "the least length", toldNumber(impl.PlateLong(plate(0, 0, at(1), 0))), "00000001")
	far := plate(0, 0, 2e38, 0, 0, 0)
	wantTold(t, "too long together", toldNumber(impl.PlateLong(far)), "no")
	wantTold(t, "the seats of a plate that is too long", toldFlows(impl.SeatsOf(far)), wordsOf([]float32{5e37, 0, 1.5e38, 0}))
}

// TestShortPanels: a panel can be so short that 1 divided by its length is not finite, and then it has no normal.
func TestShortPanels(t *testing.T) {
	short, fine := plate(0, 0, at(0x00100000), 0), plate(0, 0, at(0x00200001), 0)
	wantTold(t, "the length", toldNumber(impl.PlateLong(short)), "00100000")
	wantTold(t, "no normal", toldFlows(impl.NormalsOf(short)), "no")
	wantTold(t, "no needs", toldNumbers(impl.NeedsOf(short, 1, nil, 0)), "no")
	wantTold(t, "nothing through", toldNumber(impl.WorstThrough(short, []float32{0}, 1)), "no")
	wantTold(t, "no pressure", toldNumbers(impl.PressuresOf(short, []float32{0})), "00000000")
	wantTold(t, "a pressure that is not finite", toldNumbers(impl.PressuresOf(short, []float32{1})), "no")
	normals := mustPoints(t)(impl.NormalsOf(fine))
	wantNear(t, "the normal", normals[0], 1i, 1e-6)
	// One panel without a normal among others makes all of them fail, whatever the wind is.
	mixed := plate(-1, 0, 0, 0, at(0x00100000), 0)
	wantTold(t, "no normals", toldFlows(impl.NormalsOf(mixed)), "no")
	wantTold(t, "nothing through a mixed plate", toldNumber(impl.WorstThrough(mixed, []float32{0, 0}, 0)), "no")
	wantTold(t, "no square", toldNumbers(impl.SquareOfPlate(mixed)), "no")
	// A number cannot hold a quarter of the least one: seats and checks come to the corners.
	least := plate(0, 0, at(1), 0)
	wantTold(t, "the seat", toldFlows(impl.SeatsOf(least)), wordsOf([]float32{0, 0}))
	wantTold(t, "the check", toldFlows(impl.ChecksOf(least)), wordsOf([]float32{at(1), 0}))
}

// TestPlatesStay: plates of which others are made stay as they are.
func TestPlatesStay(t *testing.T) {
	p := manyPanels(3)
	moved := mustPlate(t)(impl.MovePlate(p, 0))
	turned := mustPlate(t)(impl.TurnPlate(p, 0))
	flight := mustFlight(t)(impl.NewFlight(p))
	moved.Corners[0], turned.Corners[1], flight.Plate.Corners[2] = 99, 99, 99
	wantPlate(t, "the plate", manyPanels(3))(p, true)
}
