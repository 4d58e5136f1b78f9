package tests

import (
	"fmt"
	"slices"
	"strings"
	"testing"

	"loop.example/g01266/impl"
)

// deskWords has what the words of a line tell, as the functions take it.
type deskWords struct {
	x, y, z float32
	n       int64
	c       complex64
}

// deskCall does what a line of the table tells, with the functions that it names.
type deskCall func(d *impl.Desk, w deskWords) (output string, ok bool)

// put keeps the part that a function returns, for lines that output ok.
func put[T any](part *T) func(value T, ok bool) (string, bool) {
	return func(value T, ok bool) (string, bool) {
		*part = value
		return "ok", ok
	}
}

func oneNumber(x float32, ok bool) (string, bool) { return commaText(x), ok }

func onePoint(x complex64, ok bool) (string, bool) { return pointText(x), ok }

// partCalls has the lines that tell a part.
func partCalls() map[string]deskCall {
	return map[string]deskCall{
		"whirls":  func(d *impl.Desk, w deskWords) (string, bool) { return impl.WhirlsText(d.Whirls) },
		"sheet":   func(d *impl.Desk, w deskWords) (string, bool) { return impl.SheetText(d.Sheet) },
		"basin":   func(d *impl.Desk, w deskWords) (string, bool) { return impl.BasinText(d.Basin) },
		"threads": func(d *impl.Desk, w deskWords) (string, bool) { return impl.ThreadsText(d.Threads) },
		"core":    func(d *impl.Desk, w deskWords) (string, bool) { return impl.NumbersText([]float32{d.Core}) },
		"core X":  func(d *impl.Desk, w deskWords) (string, bool) { return put(&d.Core)(w.x, true) },
	}
}

// whirlLineCalls has the lines that work with whirls.
func whirlLineCalls() map[string]deskCall {
	return map[string]deskCall{
		"flow C": func(d *impl.Desk, w deskWords) (string, bool) { return onePoint(impl.FlowAt(d.Whirls, w.c, d.Core)) },
		"run X N": func(d *impl.Desk, w deskWords) (string, bool) {
			return put(&d.Whirls)(impl.RunWhirls(d.Whirls, d.Core, w.x, w.n))
		},
		"polygon N X Y": func(d *impl.Desk, w deskWords) (string, bool) {
			return put(&d.Whirls)(impl.PolygonOfWhirls(w.n, w.x, w.y))
		},
		"spin":    func(d *impl.Desk, w deskWords) (string, bool) { return oneNumber(impl.TotalSpin(d.Whirls)) },
		"moment":  func(d *impl.Desk, w deskWords) (string, bool) { return oneNumber(impl.MomentOfSpin(d.Whirls)) },
		"energy":  func(d *impl.Desk, w deskWords) (string, bool) { return oneNumber(impl.EnergyOfWhirls(d.Whirls)) },
		"impulse": func(d *impl.Desk, w deskWords) (string, bool) { return onePoint(impl.ImpulseOf(d.Whirls)) },
		"nearest": func(d *impl.Desk, w deskWords) (string, bool) {
			i, k, distance, ok := impl.NearestWhirls(d.Whirls)
			return fmt.Sprint(i, " ", k, " ", commaText(distance)), ok
		},
		"merge X": func(d *impl.Desk, w deskWords) (string, bool) {
			return put(&d.Whirls)(impl.MergeNearest(d.Whirls, w.x))
		},
	}
}

// otherLineCalls has the lines that work with the sheet, the basin and threads.
func otherLineCalls() map[string]deskCall {
	return map[string]deskCall{
		"roll X N": func(d *impl.Desk, w deskWords) (string, bool) {
			s, lengths, ok := impl.RunSheet(d.Sheet, d.Core, w.x, w.n)
			d.Sheet = s
			return commaText(lengths...), ok
		},
		"mend X Y N": func(d *impl.Desk, w deskWords) (string, bool) {
			s, changes, ok := impl.MendSheet(d.Sheet, w.x, w.y, w.n)
			d.Sheet = s
			return fmt.Sprint(changes), ok
		},
		"long": func(d *impl.Desk, w deskWords) (string, bool) { return oneNumber(impl.SheetLong(d.Sheet)) },
		"step X Y N": func(d *impl.Desk, w deskWords) (string, bool) {
			return put(&d.Basin)(impl.StepBasin(d.Basin, w.x, w.y, w.n))
		},
		"range": func(d *impl.Desk, w deskWords) (string, bool) {
			least, greatest, ok := impl.RangeInBasin(d.Basin)
			return commaText(least, greatest), ok
		},
		"total": func(d *impl.Desk, w deskWords) (string, bool) { return oneNumber(impl.TotalInBasin(d.Basin)) },
		"ring N X Y Z": func(d *impl.Desk, w deskWords) (string, bool) {
			ring, ok := impl.RingThread(w.n, w.x, w.y, w.z)
			return put(&d.Threads)(append(slices.Clone(d.Threads), ring), ok)
		},
		"move X N": func(d *impl.Desk, w deskWords) (string, bool) {
			return put(&d.Threads)(impl.RunThreads(d.Threads, d.Core, w.x, w.n))
		},
		"lengths": func(d *impl.Desk, w deskWords) (string, bool) {
			var lengths []float32
			for _, line := range d.Threads {
				length, ok := impl.LengthOfThread(line)
				if !ok {
					return "", false
				}
				lengths = append(lengths, length)
			}
			return commaText(lengths...), true
		},
	}
}

// lineOf writes a line of a form.
func lineOf(form string, w deskWords) string {
	words := strings.Split(form, " ")
	for i, letter := range words[1:] {
		words[i+1] = map[string]string{
			"X": commaText(w.x), "Y": commaText(w.y), "Z": commaText(w.z), "N": fmt.Sprint(w.n), "C": pointText(w.c),
		}[letter]
	}
	return strings.Join(words, " ")
}

// wordsOfLines has numbers of all kinds for lines, and counts around the limits of all of them.
func wordsOfLines() []deskWords {
	var list []deskWords
	numbers := []deskWords{
		{x: 0.1, y: 0.5, z: 1, c: 1}, {x: 1, y: 1, z: minusZero, c: complex(minusZero, 2)}, {x: 2.5, y: -0.125, z: 3, c: -3}, {x: -0.5, y: 1, z: -1, c: 0.5i},
		{x: minusZero, y: 0, z: 0, c: complex(minusZero, minusZero)}, {x: at(1), y: at(signBit + 1), z: 3e38, c: complex(at(1), 3e38)},
		{x: 3e38, y: 3e38, z: 1, c: 3e38}, {x: at(infinity), y: 1, z: 1, c: complex(0, at(infinity))}, {x: 1, y: at(noNumber), z: 1, c: complex(at(noNumber), 0)},
		{x: at(noNumber), y: 1, z: at(noNumber), c: 1i}, {x: 0.25, y: 4, z: at(infinity), c: 0.001},
	}
	for _, n := range []int64{0, 1, 2, 3, 5, 32, 33, -1} {
		for _, w := range numbers {
			w.n = n
			list = append(list, w)
		}
	}
	return list
}

// TestPromise9Lines: a desk outputs what the functions tell, and becomes what they make of it, or stays the same where they fail.
func TestPromise9Lines(t *testing.T) {
	fine := map[string]int{}
	for _, calls := range []map[string]deskCall{partCalls(), whirlLineCalls(), otherLineCalls()} {
		for form, call := range calls {
			for _, d := range fineDesks() {
				for _, w := range wordsOfLines() {
					want := d
					output, ok := call(&want, w)
					if !ok || !impl.ValidDesk(want) {
						want, output = d, "no"
					} else {
						fine[form]++
					}
					wantLine(t, d, lineOf(form, w), output, want)
				}
			}
		}
	}
	// The four lines that put a whole text have tests of their own.
	wantBool(t, "lines of all forms are carried out", len(fine) == len(deskForms())-4, true)
}

// sessionLines change a desk in many ways, one after another.
func sessionLines() []string {
	return []string{
		"polygon 5 3f800000 3f000000", "run 3dcccccd 3", "whirls", "core 3e800000", "flow 3f80000040000000", "ring 6 3f800000 00000000 3f800000",
		"ring 4 3f000000 3e800000 bf800000", "move 3dcccccd 2", "threads", "lengths", "merge 40000000", "energy", "nearest", "impulse", "moment", "spin",
		"roll 3dcccccd 2", "mend 3f000000 3f800000 4", "sheet", "long", "basin 3,4;" + commaText(1, 2, 3, -1, 0, 0, 5, -2, minusZero, 1, 1, 4),
		"step 3dcccccd 3d4ccccd 6", "basin", "range", "total", "core bf800000", "core", "", "nothing", "run 3dcccccd 129", "threads none", "lengths",
	}
}

// TestPromise9Scripts: a script is its lines, one after another, however it is cut into scripts.
func TestPromise9Scripts(t *testing.T) {
	d, outputs := impl.NewDesk(), ""
	lines := sessionLines()
	for i, line := range lines {
		after, output, ok := impl.DeskCommand(d, line)
		wantBool(t, line, ok, true)
		d, outputs = after, outputs+output+"\n"
		script := strings.Join(lines[:i+1], "\n") + "\n"
		wantScript(t, impl.NewDesk(), script, outputs, d)
	}
	for cut := range lines {
		first := strings.Join(append(lines[:cut:cut], ""), "\n")
		second := strings.Join(append(lines[cut:], ""), "\n")
		middle, before, ok := impl.RunDesk(impl.NewDesk(), first)
		wantBool(t, "a script", ok, true)
		got, behind, ok := impl.RunDesk(middle, second)
		wantTold(t, fmt.Sprint("two scripts, cut at ", cut), toldDesk(got, before+behind, ok), toldDesk(d, outputs, true))
	}
	wantTold(t, "outputs", toldCounts(impl.CountOutputs(outputs)), "4 28 true")
}

// TestPromise9Texts: a desk that is told by its texts is made again by them, to the last bit.
func TestPromise9Texts(t *testing.T) {
	for from, d := range fineDesks() {
		var lines []string
		for _, name := range []string{"whirls", "core", "sheet", "basin", "threads"} {
			_, text, ok := impl.DeskCommand(d, name)
			wantBool(t, from, ok, true)
			lines = append(lines, name+" "+text)
		}
		got := impl.NewDesk()
		for _, line := range lines {
			after, output, ok := impl.DeskCommand(got, line)
			wantTold(t, fmt.Sprintf("%s: %.80s", from, line), fmt.Sprint(output, ok), "oktrue")
			got = after
		}
		wantBool(t, from+" again", impl.SameDesk(got, d), true)
		wantTold(t, from+" again", tellAll(got), tellAll(d))
	}
}

// journalLines is short enough for each byte of its journal to be any other one.
func journalLines() []string {
	return []string{"core 3f000000", "", "ring 3 3f800000 00000000 3f800000", " 12 x", "spin", "0", "whirls none;none", "\xff\x00"}
}

// TestPromise9Cut: of a journal that is cut, all lines that are whole are recovered and carried out.
func TestPromise9Cut(t *testing.T) {
	lines := journalLines()
	journal := journalOf(lines...)
	for cut := range len(journal) + 1 {
		whole := strings.Count(journal[:cut], "\n")
		wantRecovered(t, journal[:cut], lines[:whole]...)
		want, _, _ := impl.RunDesk(impl.NewDesk(), strings.Join(append(lines[:whole:whole], ""), "\n"))
		got, count, ok := impl.RunJournal(impl.NewDesk(), journal[:cut])
		wantTold(t, fmt.Sprint("cut at ", cut), toldDesk(got, count, ok), toldDesk(want, int64(whole), true))
	}
}

// TestPromise9OtherBytes: of a journal in which a byte is another one, all lines before it are recovered.
func TestPromise9OtherBytes(t *testing.T) {
	lines := journalLines()
	journal := journalOf(lines...)
	for i := range len(journal) {
		whole := strings.Count(journal[:i], "\n")
		for b := range 256 {
			if byte(b) == journal[i] {
				continue
			}
			text := journal[:i] + string([]byte{byte(b)}) + journal[i+1:]
			got, length, ok := impl.RecoverJournal(text)
			// Where the byte ends a line too soon, or joins two, no check number fits by chance here.
			wantTold(t, fmt.Sprintf("byte %d is %d", i, b), toldRecovered(got, length, ok), toldRecovered(lines[:whole], int64(len(journalOf(lines[:whole]...))), true))
			if i%7 == 0 && b%16 == 0 {
				_, count, ok := impl.RunJournal(impl.NewDesk(), text)
				wantBool(t, "its lines are carried out", ok && count == int64(whole), true)
			}
		}
	}
}

// TestPromise9Mixed: lines that are left out, put in twice, or in another order end what is recovered.
func TestPromise9Mixed(t *testing.T) {
	lines := journalLines()
	entries := strings.SplitAfter(journalOf(lines...), "\n")
	for i := range lines {
		wantRecovered(t, strings.Join(slices.Delete(slices.Clone(entries), i, i+1), ""), sameChecks(lines, i)...)
		if i > 0 {
			swapped := slices.Clone(entries)
			swapped[i-1], swapped[i] = swapped[i], swapped[i-1]
			text := strings.Join(swapped, "")
			got, length, ok := impl.RecoverJournal(text)
			wantBool(t, "a beginning", ok && strings.HasPrefix(text, journalOf(got...)) && length == int64(len(journalOf(got...))), true)
			wantBool(t, "lines before", len(got) >= i-1 && slices.Equal(got[:i-1], lines[:i-1]), true)
		}
	}
}

// sameChecks returns the lines that are recovered where the line i is left out: an empty line has the check number of the one before it, and is not missed.
func sameChecks(lines []string, i int) []string {
	if lines[i] == "" {
		return slices.Delete(slices.Clone(lines), i, i+1)
	}
	return lines[:i]
}
