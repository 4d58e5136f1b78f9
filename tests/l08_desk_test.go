package tests

import (
	"fmt"
	"slices"
	"strings"
	"testing"

	"loop.example/g01266/impl"
)

func TestConstantsOfChapter8(t *testing.T) {
	if impl.MaxScript != 16000 {
		t.Errorf("MaxScript: got %d", impl.MaxScript)
	}
}

// TestExamplesOfChapter8 asserts every example at the end of chapter 8.
func TestExamplesOfChapter8(t *testing.T) {
	d := impl.NewDesk()
	wantSame(t, d, "3e000000", "core")
	wantSame(t, d, "00000000", "spin")
	wantSame(t, d, "0 1 40000000", "nearest")
	_, outputs, ok := impl.RunDesk(d, "core\nspin\nnearest\n")
	wantTold(t, "one after another", fmt.Sprint(outputs, ok), "3e000000\n00000000\n0 1 40000000\ntrue")
}

// TestDeskRows: sessions output what was computed apart from the program.
func TestDeskRows(t *testing.T) {
	for i, session := range deskRows() {
		d := impl.NewDesk()
		for _, row := range strings.Split(strings.Trim(session, "\n"), "\n") {
			line, want, found := strings.Cut(row, " -> ")
			if !found {
				t.Fatalf("no row: %q", row)
			}
			after, output, ok := impl.DeskCommand(d, line)
			wantTold(t, fmt.Sprintf("session %d: %q", i, line), fmt.Sprint(output, ok), want+"true")
			d = after
		}
	}
}

func TestNewDesk(t *testing.T) {
	want := impl.Desk{
		Whirls: []impl.Whirl{whirl(1, 0, 1), whirl(-1, minusZero, -1)},
		Core:   0.125,
		Sheet:  openSheet(0, 0, 1, 1, 0, 1, 2, 0, 1, 3, 0, 1),
		Basin:  evenCells(4, 4, 0),
	}
	wantTold(t, "a new desk", tellAll(impl.NewDesk()), tellAll(want))
	wantBool(t, "a new desk", impl.ValidDesk(impl.NewDesk()), true)
}

func TestValidDesks(t *testing.T) {
	for name, d := range fineDesks() {
		wantBool(t, name, impl.ValidDesk(d), true)
	}
	for _, core := range []float32{0, minusZero, at(1), 1, 3.4028235e38} {
		d := deskOf()
		d.Core = core
		wantBool(t, fmt.Sprint("the core ", core), impl.ValidDesk(d), true)
	}
	empty := deskOf()
	empty.Whirls, empty.Threads = []impl.Whirl{}, []impl.Thread{}
	wantBool(t, "a desk with empty lists", impl.ValidDesk(empty), true)
	for i, d := range oddDesks() {
		wantBool(t, fmt.Sprint("odd desk ", i), impl.ValidDesk(d), false)
	}
}

// TestOddDesks: nothing is carried out at a desk that is not valid, not even lines that are none, and no lines.
func TestOddDesks(t *testing.T) {
	texts := []string{"", "core", "core 00000000", "whirls none;none", "sheet 0000000000000000,0000000000000000;00000000,00000000;open", "basin", "threads none", "nothing"}
	for i, d := range oddDesks() {
		what := fmt.Sprint("odd desk ", i)
		for _, text := range texts {
			after, output, ok := impl.DeskCommand(d, text)
			wantTold(t, what+": "+text, toldDesk(after, output, ok), "no")
			journal, _ := impl.JournalOf([]string{text})
			behind, count, ok := impl.RunJournal(d, journal)
			wantTold(t, what+": "+journal, toldDesk(behind, count, ok), "no")
			after, output, ok = impl.RunDesk(d, text+"\n")
			wantTold(t, what+": a script of "+text, toldDesk(after, output, ok), "no")
		}
		after, output, ok := impl.RunDesk(d, "")
		wantTold(t, what+": an empty script", toldDesk(after, output, ok), "no")
		behind, count, ok := impl.RunJournal(d, "")
		wantTold(t, what+": an empty journal", toldDesk(behind, count, ok), "no")
	}
}

// changedDesks has desks that differ from a desk in one number each, or in how many something is.
func changedDesks() []impl.Desk {
	var list []impl.Desk
	add := func(change func(d *impl.Desk)) {
		d := deskOf()
		change(&d)
		list = append(list, d)
	}
	add(func(d *impl.Desk) { d.Whirls[2].At += 1 })
	add(func(d *impl.Desk) { d.Whirls[1].At += 1i })
	add(func(d *impl.Desk) { d.Whirls[0].Spin++ })
	add(func(d *impl.Desk) { d.Whirls = d.Whirls[:2] })
	add(func(d *impl.Desk) { d.Whirls = nil })
	add(func(d *impl.Desk) { slices.Reverse(d.Whirls) })
	add(func(d *impl.Desk) { d.Core++ })
	add(func(d *impl.Desk) { d.Core = -d.Core })
	add(func(d *impl.Desk) { d.Core = at(noNumber) })
	add(func(d *impl.Desk) { d.Sheet.Closed = false })
	add(func(d *impl.Desk) { d.Sheet.Points[3] += 1 })
	add(func(d *impl.Desk) { d.Sheet.Spins[3]++ })
	add(func(d *impl.Desk) { d.Sheet.Points = d.Sheet.Points[:3] })
	add(func(d *impl.Desk) { d.Sheet.Spins = d.Sheet.Spins[:3] })
	add(func(d *impl.Desk) { d.Basin.Wide, d.Basin.High = 3, 4 })
	add(func(d *impl.Desk) { d.Basin.Spins[11]++ })
	add(func(d *impl.Desk) { d.Basin.Spins = nil })
	add(func(d *impl.Desk) { d.Threads = d.Threads[:1] })
	add(func(d *impl.Desk) { d.Threads = nil })
	add(func(d *impl.Desk) { slices.Reverse(d.Threads) })
	add(func(d *impl.Desk) { d.Threads[1].Spin++ })
	add(func(d *impl.Desk) { d.Threads[0].Points[2].Z++ })
	add(func(d *impl.Desk) { d.Threads[1].Points = d.Threads[1].Points[:3] })
	add(func(d *impl.Desk) { d.Threads = append(d.Threads, impl.Thread{}) })
	return append(list, impl.Desk{})
}

func TestSameDesks(t *testing.T) {
	for name, d := range fineDesks() {
		again := fineDesks()[name]
		wantBool(t, name+", twice", impl.SameDesk(d, again), true)
		for other, e := range fineDesks() {
			wantBool(t, name+" and "+other, impl.SameDesk(d, e), name == other)
		}
	}
	for i, d := range changedDesks() {
		what := fmt.Sprint("changed desk ", i)
		wantBool(t, what, impl.SameDesk(d, deskOf()), false)
		wantBool(t, what+", the other way around", impl.SameDesk(deskOf(), d), false)
		wantBool(t, what+" and itself", impl.SameDesk(d, changedDesks()[i]), true)
	}
	for i, d := range oddDesks() {
		wantBool(t, fmt.Sprint("odd desk ", i), impl.SameDesk(d, oddDesks()[i]), true)
	}
	empty := impl.Desk{Whirls: []impl.Whirl{}, Threads: []impl.Thread{}}
	wantBool(t, "nil and empty lists", impl.SameDesk(empty, impl.Desk{}), true)
}

// everyNumber calls change with the number of all places of a desk, one after another, and a desk whose number there it may change.
func everyNumber(use func(what string, put func(x float32) impl.Desk)) {
	places := map[string]func(d *impl.Desk, x float32){
		"core":         func(d *impl.Desk, x float32) { d.Core = x },
		"whirl's x":    func(d *impl.Desk, x float32) { d.Whirls[2].At = complex(x, 1) },
		"whirl's y":    func(d *impl.Desk, x float32) { d.Whirls[2].At = complex(1, x) },
		"whirl's spin": func(d *impl.Desk, x float32) { d.Whirls[2].Spin = x },
		"sheet's x":    func(d *impl.Desk, x float32) { d.Sheet.Points[3] = complex(x, 1) },
		"sheet's y":    func(d *impl.Desk, x float32) { d.Sheet.Points[3] = complex(1, x) },
		"sheet's spin": func(d *impl.Desk, x float32) { d.Sheet.Spins[3] = x },
		"basin's spin": func(d *impl.Desk, x float32) { d.Basin.Spins[11] = x },
		"thread's X":   func(d *impl.Desk, x float32) { d.Threads[1].Points[3].X = x },
		"thread's Y":   func(d *impl.Desk, x float32) { d.Threads[1].Points[3].Y = x },
		"thread's Z":   func(d *impl.Desk, x float32) { d.Threads[1].Points[3].Z = x },
		"thread's spin": func(d *impl.Desk, x float32) {
			d.Threads[1].Spin = x
		},
	}
	for what, put := range places {
		use(what, func(x float32) impl.Desk {
			d := deskOf()
			put(&d, x)
			return d
		})
	}
}

// TestSameNumbersOfDesks: zeros with other signs are not the same, not-a-numbers with other bits are, in all places.
func TestSameNumbersOfDesks(t *testing.T) {
	everyNumber(func(what string, put func(x float32) impl.Desk) {
		wantBool(t, what+", zeros", impl.SameDesk(put(0), put(minusZero)), false)
		wantBool(t, what+", zeros with signs", impl.SameDesk(put(minusZero), put(minusZero)), true)
		for _, bits := range []uint32{0x7fc00001, 0xffc00000, 0x7f800001, 0xffffffff} {
			wantBool(t, what+", not-a-numbers", impl.SameDesk(put(at(bits)), put(at(noNumber))), true)
			wantBool(t, what+", a not-a-number and 1", impl.SameDesk(put(at(bits)), put(1)), false)
		}
		wantBool(t, what+", infinities", impl.SameDesk(put(at(infinity)), put(at(infinity))), true)
		wantBool(t, what+", infinities with other signs", impl.SameDesk(put(at(infinity)), put(at(infinity+signBit))), false)
		wantBool(t, what+", the last bit", impl.SameDesk(put(1), put(at(0x3f800001))), false)
	})
}
