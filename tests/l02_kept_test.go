package tests

import (
	"testing"

	"loop.example/g01266/impl"
)

func TestKeptRows(t *testing.T) {
	wantToldRows(t, "TotalSpin", totalRows, func(in []float32) string { return toldNumber(impl.TotalSpin(whirlsOf(in))) })
	wantToldRows(t, "ImpulseOf", impulseRows, func(in []float32) string { return toldComplex(impl.ImpulseOf(whirlsOf(in))) })
	wantToldRows(t, "MomentOfSpin", momentRows, func(in []float32) string { return toldNumber(impl.MomentOfSpin(whirlsOf(in))) })
	wantToldRows(t, "EnergyOfWhirls", energyRows, func(in []float32) string { return toldNumber(impl.EnergyOfWhirls(whirlsOf(in))) })
	wantToldRows(t, "CentreOfWhirls", centreRows, func(in []float32) string { return toldComplex(impl.CentreOfWhirls(whirlsOf(in))) })
}

func TestSmallSums(t *testing.T) {
	list := []impl.Whirl{whirl(1, 0, 1), whirl(0, 2, 3), whirl(-3, 4, -2)}
	wantTold(t, "the spin", toldNumber(impl.TotalSpin(list)), "40000000")
	wantTold(t, "the impulse", toldComplex(impl.ImpulseOf(list)), "40e00000 c0000000")
	wantTold(t, "the moment", toldNumber(impl.MomentOfSpin(list)), "c2140000")
	wantTold(t, "the centre", toldComplex(impl.CentreOfWhirls(list)), "40600000 bf800000")
}

// TestKeptInOrder: sums go from the first whirl to the last one, in 32-bit numbers.
func TestKeptInOrder(t *testing.T) {
	big := float32(1 << 24)
	list := []impl.Whirl{whirl(1, 1, big), whirl(1, 1, 1), whirl(1, 1, 1), whirl(1, 1, -big)}
	back := []impl.Whirl{list[1], list[2], list[0], list[3]}
	wantTold(t, "the spin", toldNumber(impl.TotalSpin(list)), "00000000")
	wantTold(t, "the spin, ones first", toldNumber(impl.TotalSpin(back)), "40000000")
	wantTold(t, "the impulse", toldComplex(impl.ImpulseOf(list)), "00000000 00000000")
	wantTold(t, "the impulse, ones first", toldComplex(impl.ImpulseOf(back)), "40000000 40000000")
	wantTold(t, "the moment", toldNumber(impl.MomentOfSpin(list)), "00000000")
	wantTold(t, "the moment, ones first", toldNumber(impl.MomentOfSpin(back)), "40800000")
	far := complex64(complex(0, turn))
	flow := []impl.Whirl{{At: far, Spin: turn * turn * big}, {At: far, Spin: turn * turn}, {At: far, Spin: turn * turn}, {At: far, Spin: -turn * turn * big}}
	wantTold(t, "the flow", toldComplex(impl.FlowAt(flow, 0, 0)), "00000000 00000000")
	wantTold(t, "the flow, ones first", toldComplex(impl.FlowAt([]impl.Whirl{flow[1], flow[2], flow[0], flow[3]}, 0, 0)), "40000000 00000000")
}

// TestKeptZeros: sums begin with +0, so that no sum of zeros has a sign, but the energy is the opposite of one.
func TestKeptZeros(t *testing.T) {
	list := []impl.Whirl{whirl(minusZero, minusZero, minusZero), whirl(minusZero, 1, minusZero)}
	wantTold(t, "the spin", toldNumber(impl.TotalSpin(list)), "00000000")
	wantTold(t, "the impulse", toldComplex(impl.ImpulseOf([]impl.Whirl{whirl(minusZero, minusZero, 1)})), "00000000 00000000")
	wantTold(t, "the moment", toldNumber(impl.MomentOfSpin(list)), "00000000")
	wantTold(t, "the flow", toldComplex(impl.FlowAt(list, 1, 0)), "00000000 00000000")
	wantTold(t, "the stream", toldNumber(impl.StreamAt(list, complex(minusZero, 2), 0)), "00000000")
	wantTold(t, "the energy", toldNumber(impl.EnergyOfWhirls(list)), "80000000")
	wantTold(t, "the energy of one", toldNumber(impl.EnergyOfWhirls(list[:1])), "80000000")
	// Quotients are products with conjugates, which tells the signs of zeros.
	wantTold(t, "a centre to the right", toldComplex(impl.CentreOfWhirls([]impl.Whirl{whirl(1, 0, -1)})), "3f800000 00000000")
	wantTold(t, "a centre to the left", toldComplex(impl.CentreOfWhirls([]impl.Whirl{whirl(-1, 0, -2)})), "bf800000 80000000")
}

func TestEnergies(t *testing.T) {
	wantTold(t, "the gap 1", toldNumber(impl.EnergyOfWhirls([]impl.Whirl{whirl(0, 0, 1), whirl(1, 0, 1)})), "80000000")
	wantTold(t, "the gap 2", toldNumber(impl.EnergyOfWhirls([]impl.Whirl{whirl(1, 1, turn), whirl(1, 3, 1)})), "bf317218")
	wantTold(t, "the gap 2, opposite spins", toldNumber(impl.EnergyOfWhirls([]impl.Whirl{whirl(1, 1, turn), whirl(1, 3, -1)})), "3f317218")
	wantTold(t, "the gap 1 / 2", toldNumber(impl.EnergyOfWhirls([]impl.Whirl{whirl(0, 0, 2), whirl(0.5, 0, turn)})), "3fb17218")
	for _, spin := range []float32{0, 1, -1, 1e-30} {
		list := []impl.Whirl{whirl(2, 0, spin), whirl(1, 5, 3), whirl(2, minusZero, spin)}
		wantTold(t, "one place", toldNumber(impl.EnergyOfWhirls(list)), "no")
		wantTold(t, "one place in front", toldNumber(impl.EnergyOfWhirls([]impl.Whirl{list[0], list[2], list[1]})), "no")
		wantTold(t, "one place behind", toldNumber(impl.EnergyOfWhirls([]impl.Whirl{list[1], list[0], list[2]})), "no")
	}
}

// TestKeptThatIsNotFinite: functions fail with numbers that are not finite.
func TestKeptThatIsNotFinite(t *testing.T) {
	huge := []impl.Whirl{whirl(1e-5, 0, 3e38), whirl(0, 1e-5, 3e38)}
	wantTold(t, "the spin", toldNumber(impl.TotalSpin(huge)), "no")
	wantTold(t, "the spin on the way", toldNumber(impl.TotalSpin(append(huge, whirl(0, 0, -3e38)))), "no")
	wantTold(t, "the centre by the spin", toldComplex(impl.CentreOfWhirls(huge)), "no")
	far := []impl.Whirl{whirl(1e30, 0, 1e10), whirl(1, 0, 1)}
	wantTold(t, "the impulse", toldComplex(impl.ImpulseOf(far)), "no")
	wantTold(t, "the impulse upwards", toldComplex(impl.ImpulseOf([]impl.Whirl{whirl(0, 1e30, -1e10)})), "no")
	wantTold(t, "the centre by the impulse", toldComplex(impl.CentreOfWhirls(far)), "no")
	wantTold(t, "the moment", toldNumber(impl.MomentOfSpin(far)), "no")
	wantTold(t, "the moment of no spin", toldNumber(impl.MomentOfSpin([]impl.Whirl{whirl(1e30, 0, 0)})), "no")
	wantTold(t, "the energy", toldNumber(impl.EnergyOfWhirls([]impl.Whirl{whirl(0, 0, 1e30), whirl(2, 0, 1e30)})), "no")
	wantTold(t, "the energy too far away", toldNumber(impl.EnergyOfWhirls([]impl.Whirl{whirl(3e38, 0, 1), whirl(-3e38, 0, 0)})), "no")
	wantTold(t, "opposite energies", toldNumber(impl.EnergyOfWhirls([]impl.Whirl{whirl(0, 0, 1e30), whirl(2, 0, 1e30), whirl(0, 2, -1e30)})), "no")
	// Whirls whose spins are nothing together have no centre, whatever their impulse is.
	wantTold(t, "no spins", toldComplex(impl.CentreOfWhirls([]impl.Whirl{whirl(1, 2, 0)})), "no")
	wantTold(t, "opposite spins", toldComplex(impl.CentreOfWhirls([]impl.Whirl{whirl(1, 2, 3), whirl(5, 2, -3)})), "no")
	wantTold(t, "opposite spins at one place", toldComplex(impl.CentreOfWhirls([]impl.Whirl{whirl(1, 2, 3), whirl(1, 2, -3)})), "no")
}
