package tests

import (
	"math"
	"testing"

	"loop.example/g01266/impl"
)

func TestSines(t *testing.T) {
	wantRows(t, "SineTurns", sineRows, func(in []float32) []float32 { return []float32{impl.SineTurns(in[0])} })
	rows := []struct {
		turns float32
		want  uint32
	}{
		{0, 0}, {minusZero, signBit}, {0.25, 0x3f800000}, {0.5, signBit}, {0.75, 0xbf800000}, {1, 0}, {-1, 0}, {-3, 0},
		{-0.25, 0xbf800000}, {-0.5, signBit}, {-0.75, 0x3f800000}, {1.25, 0x3f800000}, {-1.25, 0xbf800000}, {-7.5, signBit},
		{at(1), 6}, {at(0x00800000), 0x01c90fdb},
		// The part of a turn is rounded to 1 here, which is more than half a turn.
		{at(signBit + 1), signBit}, {-1e-30, signBit}, {-1e-17, signBit},
		{at(0x59800000), 0}, {at(0xd9800000), 0}, {at(0x597fffff), 0}, {at(0xd97fffff), 0}, {at(0x7f7fffff), 0}, {at(0xff7fffff), 0},
		{at(0x4b000001), 0}, {at(0x4a800001), signBit}, {at(0xca000001), 0xbf800000},
		{at(infinity), noNumber}, {at(signBit + infinity), noNumber}, {at(noNumber), noNumber}, {at(0xffc00001), noNumber},
	}
	for _, row := range rows {
		wantNumber(t, "SineTurns of "+wordsOf([]float32{row.turns}), impl.SineTurns(row.turns), row.want)
	}
}

func TestPhasors(t *testing.T) {
	whole := math.Ldexp(1, 52)
	rows := []struct {
		turns  float64
		re, im uint32
	}{
		{0, 0x3f800000, 0}, {math.Copysign(0, -1), 0x3f800000, signBit}, {0.25, 0, 0x3f800000}, {0.5, 0xbf800000, 0},
		{0.75, 0, 0xbf800000}, {1, 0x3f800000, 0}, {-1, 0x3f800000, 0}, {-0.25, 0, 0xbf800000}, {-0.5, 0xbf800000, 0}, {-0.75, 0, 0x3f800000},
		{0.125, 0x3f3504f3, 0x3f3504f3}, {0.375, 0xbf3504f3, 0x3f3504f3}, {0.625, 0xbf3504f3, 0xbf3504f3}, {0.875, 0x3f3504f3, 0xbf3504f3},
		// The part of a turn is rounded to 1 in the first four, and is the last one before 1 in the fifth.
		{-1e-17, 0x3f800000, 0}, {-1e-300, 0x3f800000, 0}, {-5e-324, 0x3f800000, 0}, {-math.Ldexp(1, -54), 0x3f800000, 0},
		{-math.Ldexp(1, -53), 0x3f800000, 0xa6490fdb},
		{whole, 0x3f800000, 0}, {-whole, 0x3f800000, 0}, {whole - 0.5, 0xbf800000, 0}, {0.5 - whole, 0xbf800000, 0},
		{whole / 2, 0x3f800000, 0}, {whole/2 + 0.5, 0xbf800000, 0}, {whole/4 + 0.25, 0, 0x3f800000},
		{whole + 1, 0x3f800000, 0}, {math.MaxFloat64, 0x3f800000, 0}, {-math.MaxFloat64, 0x3f800000, 0}, {1e19, 0x3f800000, 0},
		{math.Inf(1), noNumber, noNumber}, {math.Inf(-1), noNumber, noNumber}, {math.NaN(), noNumber, noNumber},
		{0.3333333333333333, 0xbf000000, 0x3f5db3d7},
		{0.6666666666666666, 0xbf000000, 0xbf5db3d7},
		{-0.3333333333333333, 0xbf000000, 0xbf5db3d7},
		{0.14285714285714285, 0x3f1f9d07, 0x3f48261c},
		{0.42857142857142855, 0xbf66a5e5, 0x3ede2602},
		{-0.7142857142857143, 0xbe63dc87, 0x3f7994e0},
		{0.03125, 0x3f7b14be, 0x3e47c5c2},
		{0.15625, 0x3f0e39da, 0x3f54db31},
		{0.22916666666666666, 0x3e05a8a8, 0x3f7dcf55},
		{0.9791666666666666, 0x3f7dcf55, 0xbe05a8a8},
		{0.1, 0x3f4f1bbd, 0x3f167918},
		{-0.1, 0x3f4f1bbd, 0xbf167918},
		{1e-09, 0x3f800000, 0x31d7e37c},
		{-1e-09, 0x3f800000, 0xb1d7e37b},
		{123456.789, 0x3e786bef, 0xbf785a37},
		{-98765.4321, 0xbf690dc2, 0xbed3de13},
		{1000000000000000.4, 0xbf3504f3, 0x3f3504f3},
		{-1000000000000000.1, 0x3f3504f3, 0xbf3504f3},
		{2251799813685248.5, 0xbf800000, 0x00000000},
		{0.2499999999999999, 0x26490fdb, 0x3f800000},
		{0.7500000000000001, 0x26490fdb, 0xbf800000},
		{0.25000000000000017, 0xa696cbe4, 0x3f800000},
		{0.5000000000000003, 0xbf800000, 0xa716cbe4},
		{-0.7499999999999999, 0xa6490fdb, 0x3f800000},
		{0.2500001, 0xb528a9b8, 0x3f800000},
	}
	for _, row := range rows {
		got := impl.PhasorOf(row.turns)
		if bitsOf(real(got)) != row.re || bitsOf(imag(got)) != row.im {
			t.Errorf("PhasorOf %v: got %08x %08x, want %08x %08x", row.turns, bitsOf(real(got)), bitsOf(imag(got)), row.re, row.im)
		}
	}
}

func TestAngles(t *testing.T) {
	wantRows(t, "AngleTurns", angleRows, func(in []float32) []float32 { return []float32{impl.AngleTurns(in[0], in[1])} })
	wantRows(t, "AngleOf", angleRows, func(in []float32) []float32 { return []float32{impl.AngleOf(complex(in[1], in[0]))} })
	inf, nan := at(infinity), at(noNumber)
	rows := []struct {
		y, x float32
		want uint32
	}{
		{0, 0, 0}, {minusZero, 0, 0}, {0, minusZero, 0}, {minusZero, minusZero, 0},
		{0, 1, 0}, {minusZero, 1, 0}, {0, -1, 0x3f000000}, {minusZero, -1, 0x3f000000},
		{1, 0, 0x3e800000}, {1, minusZero, 0x3e800000}, {-1, 0, 0xbe800000}, {-1, minusZero, 0xbe800000},
		{1, 1, 0x3e000000}, {1, -1, 0x3ec00000}, {-1, -1, 0xbec00000}, {-1, 1, 0xbe000000},
		{at(signBit + 1), 1, signBit}, {at(1), 1, 0}, {at(signBit + 1), -1, 0xbf000000},
		{at(1), at(1), 0x3e000000}, {at(0x7f7fffff), at(0xff7fffff), 0x3ec00000}, {at(1), at(0x7f7fffff), 0}, {at(0x7f7fffff), at(1), 0x3e800000},
		{inf, 1, noNumber}, {1, inf, noNumber}, {-inf, -inf, noNumber}, {0, -inf, noNumber}, {inf, 0, noNumber},
		{nan, 1, noNumber}, {1, nan, noNumber}, {nan, nan, noNumber}, {0, nan, noNumber}, {nan, 0, noNumber},
	}
	for _, row := range rows {
		wantNumber(t, "AngleTurns of "+wordsOf([]float32{row.y, row.x}), impl.AngleTurns(row.y, row.x), row.want)
		wantNumber(t, "AngleOf "+wordsOf([]float32{row.x, row.y}), impl.AngleOf(complex(row.x, row.y)), row.want)
	}
}

func TestTenths(t *testing.T) {
	rows := []struct {
		bits uint32
		want int64
	}{
		{0x3e02681f, -89},
		{0x3e15ba19, -83},
		{0x3e1cc88a, -82},
		{0x3e2fe9f0, -77},
		{0x3e4560e9, -71},
		{0x3e4eae43, -70},
		{0x3f79ad60, -1},
		{0x0880571f, -3311},
		{0x405f37dc, 54},
		{0x01a9100d, -3721},
		{0x23c0b877, -1668},
		{0x3f5d588d, -6},
		{0x3fac7b49, 13},
		{0x3be4ae25, -216},
		{0x3c45a700, -192},
		{0x401850f4, 38},
		{0x3f14c472, -24},
		{0x3fb324d8, 15},
		{0x3f5e5136, -6},
		{0x014079b1, -3745},
		{0x00000001, -4485},
		{0x007fffff, -3793},
		{0x00800000, -3793},
		{0x7f7fffff, 3853},
	}
	for _, row := range rows {
		if got, ok := impl.TenthsOf(at(row.bits)); got != row.want || !ok {
			t.Errorf("TenthsOf %08x: got %d %v, want %d", row.bits, got, ok, row.want)
		}
	}
	for power, want := range map[float32]int64{1: 0, 10: 100, 100: 200, 1e10: 1000, 2: 30, 4: 60, 0.5: -30, 0.1: -100, 0.75: -12, 1.5: 18, 1e-20: -2000, 1.011: 0, 1.012: 1, 0.989: 0, 0.988: -1} {
		if got, ok := impl.TenthsOf(power); got != want || !ok {
			t.Errorf("TenthsOf %v: got %d %v, want %d", power, got, ok, want)
		}
	}
	for _, power := range []float32{0, minusZero, -1, at(signBit + 1), at(infinity), at(signBit + infinity), at(noNumber), at(0xffc00000)} {
		if got, ok := impl.TenthsOf(power); got != 0 || ok {
			t.Errorf("TenthsOf %v: got %d %v", power, got, ok)
		}
	}
}

func TestLogs(t *testing.T) {
	wantRows(t, "LogNumber", logRows, func(in []float32) []float32 { return []float32{impl.LogNumber(in[0])} })
	rows := []struct {
		x    float32
		want uint32
	}{
		{1, 0}, {2, 0x3f317218}, {0.5, 0xbf317218}, {0.75, 0xbe934b11}, {1.5, 0x3ecf991f}, {at(0x3f3fffff), 0xbe934b13}, {at(0x3fbfffff), 0x3ecf991d},
		{0, signBit + infinity}, {minusZero, signBit + infinity}, {-1, noNumber}, {at(signBit + 1), noNumber},
		{at(infinity), infinity}, {at(signBit + infinity), noNumber}, {at(noNumber), noNumber}, {at(0xff800001), noNumber},
	}
	for _, row := range rows {
		wantNumber(t, "LogNumber of "+wordsOf([]float32{row.x}), impl.LogNumber(row.x), row.want)
	}
}
