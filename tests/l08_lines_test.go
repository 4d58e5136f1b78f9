package tests

import (
	"fmt"
	"slices"
	"strings"
	"testing"

	"loop.example/g01266/impl"
)

// deskForms has the lines of the table, with the letters of the document for words behind the first one.
func deskForms() []string {
	return []string{
		"whirls TEXT", "sheet TEXT", "basin TEXT", "threads TEXT", "core X", "whirls", "sheet", "basin", "threads", "core", "flow C", "run X N",
		"polygon N X Y", "spin", "moment", "energy", "impulse", "nearest", "merge X", "roll X N", "mend X Y N", "long", "step X Y N", "range",
		"total", "ring N X Y Z", "move X N", "lengths",
	}
}

// goodLines has a line of each form that is carried out at a new desk.
func goodLines() map[string]string {
	return map[string]string{
		"whirls TEXT": "whirls 3f80000000000000;40000000", "sheet TEXT": "sheet 0000000000000000,3f80000000000000;3f800000,40000000;open",
		"basin TEXT":   "basin 3,3;" + strings.Repeat("3f800000,", 8) + "3f800000",
		"threads TEXT": "threads 00000000,00000000,00000000/3f800000,00000000,00000000/00000000,3f800000,00000000;3f800000",
		"core X":       "core 3f000000", "whirls": "whirls", "sheet": "sheet", "basin": "basin", "threads": "threads", "core": "core",
		"flow C": "flow 3f800000c0000000", "run X N": "run 3dcccccd 2", "polygon N X Y": "polygon 3 40000000 3f000000", "spin": "spin",
		"moment": "moment", "energy": "energy", "impulse": "impulse", "nearest": "nearest", "merge X": "merge 40400000",
		"roll X N": "roll 3dcccccd 2", "mend X Y N": "mend 3dcccccd 3f000000 3", "long": "long", "step X Y N": "step 3dcccccd 3d000000 4",
		"range": "range", "total": "total", "ring N X Y Z": "ring 5 3f800000 bf800000 3f000000", "move X N": "move 3dcccccd 1", "lengths": "lengths",
	}
}

func namesOfLines() []string {
	var names []string
	for _, form := range deskForms() {
		name, _, _ := strings.Cut(form, " ")
		if !slices.Contains(names, name) {
			names = append(names, name)
		}
	}
	return names
}

// TestGoodLines: each line of the table is one, so that tests with words that are not right begin with right ones.
func TestGoodLines(t *testing.T) {
	if len(goodLines()) != len(deskForms()) {
		t.Errorf("%d lines for %d forms", len(goodLines()), len(deskForms()))
	}
	for _, form := range deskForms() {
		line := goodLines()[form]
		_, output, ok := impl.DeskCommand(impl.NewDesk(), line)
		wantBool(t, line, ok && output != "" && output != "no" && output != "what", true)
		wantBool(t, line, strings.Count(line, " ") == strings.Count(form, " "), true)
	}
}

// TestLinesThatAreNone: what has no form of the table changes nothing and outputs what.
func TestLinesThatAreNone(t *testing.T) {
	for _, d := range fineDesks() {
		wantSame(t, d, "what", "", " ", "  ", "\n", "\t", "ok", "no", "what", "none", "x", "0", "\x00", "\xff", strings.Repeat(" ", 20000), strings.Repeat("core", 5000))
	}
	d := deskOf()
	for _, name := range namesOfLines() {
		wantSame(t, d, "what", " "+name, "  "+name, strings.ToUpper(name), strings.ToUpper(name[:1])+name[1:], name[1:], name[:len(name)-1])
		wantSame(t, d, "what", name+"s", "s"+name, name+"\n", name+"\t", name+",", name+";", name+"\x00", "\n"+name, name+"\nspin", name+"\r", name+"\u00a0")
	}
	wantSame(t, d, "what", "new", "desk", "journal", "thread", "thread none", "sheets", "whirl", "flows", "length", "ranges", "lengths:", "cоre")
}

// TestNumberOfWords: a form has just as many words, those that are empty among them.
func TestNumberOfWords(t *testing.T) {
	d := deskOf()
	for _, name := range namesOfLines() {
		for count := 1; count < 9; count++ {
			isForm := slices.ContainsFunc(deskForms(), func(form string) bool {
				words := strings.Split(form, " ")
				return words[0] == name && len(words) == count+1
			})
			output := "what"
			if isForm {
				output = "no"
			}
			wantSame(t, d, output, name+strings.Repeat(" ", count), name+strings.Repeat(" x", count), name+strings.Repeat(" none;", count))
		}
	}
}

// TestBlanksInLines: a blank at the beginning, at the end, or a second one between words makes other words.
func TestBlanksInLines(t *testing.T) {
	d := deskOf()
	for _, form := range deskForms() {
		line := goodLines()[form]
		wantSame(t, d, "what", " "+line)
		for i := range line {
			if line[i] == ' ' {
				wantOneMore(t, d, line[:i]+" "+line[i:])
			}
		}
		wantOneMore(t, d, line+" ")
	}
}

// wantOneMore checks lines with an empty word too many: those of one word more can be of another form, but with a word that is none.
func wantOneMore(t *testing.T, d impl.Desk, line string) {
	t.Helper()
	words := strings.Split(line, " ")
	output := "what"
	for _, form := range deskForms() {
		if other := strings.Split(form, " "); other[0] == words[0] && len(other) == len(words) {
			output = "no"
		}
	}
	wantSame(t, d, output, line)
}

// badWords has words that are not what a letter of a form asks for.
func badWords(letter string) []string {
	numbers := []string{"3f800000,3f800000", "3F800000", "3f80000", "3f8000000", "+3f80000", "-3f80000", "1", "1.0", "0", "7fc00001", "ffc00000", "7f800001"}
	switch letter {
	case "X", "Y", "Z":
		return append(numbers, "", "none", "3f80000000000000", "3f800000;", ",3f800000", "3f800000,", "3f800000\n", "x", "Inf", "NaN")
	case "C":
		return append(numbers, "", "none", "3f800000", "3f800000,3f800000", "3f80000000000000,3f80000000000000", "3f8000000000000", "3F80000000000000",
			"3f80000000000000;", "7fc0000000000001", "3f80000000000000\n")
	case "N":
		return []string{
			"", "none", "01", "00", "+1", "-0", "+", "-", "1.0", "1e1", "0x1", "1_0", "1,2", "1,", "one", "a", "1000000000000001", "-1000000000000001",
			"9223372036854775808", "18446744073709551617", "99999999999999999999", "3f800000", "1\n", "١",
		}
	}
	return append(numbers, "", "none,", ";", "|", "none|none", "none;none;none", "closed", "ok", "None")
}

// TestWordsThatAreNone: where one word is not what it must be, nothing changes.
func TestWordsThatAreNone(t *testing.T) {
	for _, form := range deskForms() {
		letters, words := strings.Split(form, " "), strings.Split(goodLines()[form], " ")
		for i := 1; i < len(words); i++ {
			for _, bad := range badWords(letters[i]) {
				changed := slices.Clone(words)
				changed[i] = bad
				line := strings.Join(changed, " ")
				wantSame(t, deskOf(), "no", line)
				wantSame(t, impl.NewDesk(), "no", line)
			}
		}
	}
}

// TestNumbersAtLimits: numbers of steps, whirls and points are taken up to their limits.
func TestNumbersAtLimits(t *testing.T) {
	d := impl.NewDesk()
	for _, row := range []struct {
		line string
		fine bool
	}{
		{"run 3c23d70a 0", true}, {"run 3c23d70a 128", true}, {"run 3c23d70a 129", false}, {"run 3c23d70a -1", false}, {"run 7f800000 0", false},
		{"run 7fc00000 0", false}, {"run 80000000 1", true}, {"run 3c23d70a 1000000000000000", false}, {"run 3c23d70a -1000000000000000", false},
		{"polygon 0 3f800000 3f800000", false}, {"polygon 1 3f800000 80000000", true}, {"polygon 32 3f800000 3f800000", true},
		{"polygon 33 3f800000 3f800000", false}, {"polygon -3 3f800000 3f800000", false}, {"polygon 3 00000000 3f800000", false},
		{"polygon 3 80000000 3f800000", false}, {"polygon 3 bf800000 3f800000", false}, {"polygon 3 7f800000 3f800000", false},
		{"polygon 3 00000001 3f800000", true}, {"polygon 3 3f800000 7fc00000", false}, {"polygon 3 3f800000 7f7fffff", true},
		{"roll 3c23d70a 0", true}, {"roll 3c23d70a 32", true}, {"roll 3c23d70a 33", false}, {"roll 3c23d70a -1", false}, {"roll ff800000 0", false},
		{"mend 3f800000 3f800000 0", true}, {"mend 3f800000 3f800000 32", true}, {"mend 3f800000 3f800000 33", false}, {"mend 3f800000 3f000000 0", false},
		{"mend 3f800000 3f800000 -1", false}, {"mend 00000000 3f800000 1", false}, {"mend 3f800000 7f800000 1", false}, {"mend 00000001 00000001 1", true},
		{"step 3c23d70a 3c23d70a 0", true}, {"step 3c23d70a 3c23d70a 200", true}, {"step 3c23d70a 3c23d70a 201", false}, {"step 7f800000 3c23d70a 0", false},
		{"step 3c23d70a 3c23d70a -1", false}, {"step 3c23d70a 7fc00000 0", false}, {"step bf800000 bf800000 1", true},
		{"ring 2 3f800000 00000000 3f800000", false}, {"ring 3 3f800000 00000000 3f800000", true}, {"ring 32 3f800000 80000000 80000000", true},
		{"ring 33 3f800000 00000000 3f800000", false}, {"ring 3 00000000 00000000 3f800000", false}, {"ring 3 3f800000 7f800000 3f800000", false},
		{"ring 3 3f800000 00000000 7fc00000", false}, {"ring 3 bf800000 00000000 3f800000", false}, {"ring -3 3f800000 00000000 3f800000", false},
		{"move 3c23d70a 0", true}, {"move 3c23d70a 32", true}, {"move 3c23d70a 33", false}, {"move 3c23d70a -1", false}, {"move 7f800000 0", false},
		{"merge 7f800000", true}, {"merge 7fc00000", true}, {"merge ff800000", true}, {"merge bf800000", true}, {"merge 40000000", true},
		{"flow 7f80000000000000", false}, {"flow 000000007fc00000", false}, {"flow 8000000080000000", true},
		{"core 00000000", true}, {"core 80000000", true}, {"core 00000001", true}, {"core 7f7fffff", true}, {"core 7f800000", false}, {"core 7fc00000", false},
		{"core 80000001", false}, {"core bf800000", false}, {"core ff800000", false}, {"core ff7fffff", false},
	} {
		after, output, ok := impl.DeskCommand(d, row.line)
		wantBool(t, row.line, ok && output != "no" && output != "what", row.fine)
		if !row.fine {
			wantTold(t, row.line, toldDesk(after, output, ok), toldDesk(d, "no", true))
		}
	}
}

// TestLinesOfParts: each part becomes what a text has, and is told again as this text, and no other part changes.
func TestLinesOfParts(t *testing.T) {
	for from, d := range fineDesks() {
		for to, e := range fineDesks() {
			what := from + " to " + to
			want := d
			for _, part := range []struct {
				line, text string
				put        func()
			}{
				{"whirls", textOfWhirls(e.Whirls), func() { want.Whirls = e.Whirls }},
				{"core", commaText(e.Core), func() { want.Core = e.Core }},
				{"sheet", textOfSheet(e.Sheet), func() { want.Sheet = e.Sheet }},
				{"basin", textOfBasin(e.Basin), func() { want.Basin = e.Basin }},
				{"threads", textOfThreads(e.Threads), func() { want.Threads = e.Threads }},
			} {
				before := want
				part.put()
				wantLine(t, before, part.line+" "+part.text, "ok", want)
				wantLine(t, want, part.line, part.text, want)
			}
			wantBool(t, what, impl.SameDesk(want, e), true)
		}
	}
}

// TestLinesOfOddParts: what is no valid part of a desk is not taken.
func TestLinesOfOddParts(t *testing.T) {
	d := deskOf()
	for _, list := range oddLists() {
		wantSame(t, d, "no", "whirls "+textOfWhirls(list))
	}
	for _, core := range oddSizes() {
		wantSame(t, d, "no", "core "+commaText(core))
	}
	for _, s := range oddSheets() {
		wantSame(t, d, "no", "sheet "+textOfSheet(s))
	}
	for _, b := range oddBasins() {
		wantSame(t, d, "no", "basin "+textOfBasin(b))
	}
	for _, odd := range oddThreads() {
		wantSame(t, d, "no", "threads "+textOfThread(odd), "threads "+textOfThreads([]impl.Thread{manyCorners(3), odd}))
	}
	wantSame(t, d, "no", "threads "+textOfThreads(manyThreads(impl.MaxThreads+1)))
	// The text of one part is none of another one.
	wantSame(t, d, "no", "whirls "+textOfBasin(d.Basin), "basin "+textOfWhirls(d.Whirls), "sheet "+textOfWhirls(d.Whirls), "threads "+textOfWhirls(d.Whirls))
}

// TestRingsBehindOthers: rings are put behind all others as long as there is room.
func TestRingsBehindOthers(t *testing.T) {
	d, want := impl.NewDesk(), impl.NewDesk()
	for i := range impl.MaxThreads {
		ring := mustThread(t)(impl.RingThread(int64(i+3), float32(i+1), float32(-i), 0.5))
		want.Threads = append(want.Threads, ring)
		line := fmt.Sprintf("ring %d %s %s 3f000000", i+3, commaText(float32(i+1)), commaText(float32(-i)))
		wantLine(t, d, line, "ok", want)
		d = want
	}
	wantSame(t, d, "no", "ring 3 3f800000 00000000 3f800000")
	// A ring that is none is refused for this where there is room, too.
	d.Threads = d.Threads[:3]
	wantSame(t, d, "no", "ring 2 3f800000 00000000 3f800000")
}

// TestLinesThatFail has each line of the table whose function can fail at a valid desk, at a desk where it does.
func TestLinesThatFail(t *testing.T) {
	far := farDesk()
	wantSame(t, far, "no", "spin", "moment", "impulse", "nearest", "long", "roll 3f800000 1", "mend 3f800000 3f800000 1", "total",
		"step 3f800000 00000000 1", "step 00000000 00000000 0", "lengths")
	with := func(list ...impl.Whirl) impl.Desk {
		d := leastDesk()
		d.Whirls = list
		return d
	}
	wantSame(t, with(), "no", "nearest")
	wantSame(t, with(whirl(1, 1, 1)), "no", "nearest")
	wantSame(t, with(whirl(1, 0, 1), whirl(2, 0, 1), whirl(1, 0, 2)), "no", "energy")
	wantSame(t, with(whirl(1, 0, 3e38), whirl(3, 0, 3e38)), "no", "energy", "spin", "merge 40400000")
	wantSame(t, with(whirl(0, 0, 3e38)), "no", "flow 3a83126f00000000", "flow 00000000ba83126f")
	wantSame(t, with(whirl(0, 0, 3e38), whirl(1e-3, 0, 1)), "no", "run 3f800000 1", "run 3f800000 128")
	wantSame(t, with(whirl(3e38, 0, -8), whirl(3e38, 1, 0)), "no", "moment", "run 7f7fffff 1")
	crowded := leastDesk()
	crowded.Sheet = openSheet(0, 0, 3e38, 1e-3, 0, 1)
	wantSame(t, crowded, "no", "roll 3f800000 1", "roll 3f800000 32")
	wantSame(t, far, "no", "move 7f7fffff 1")
	tight := leastDesk()
	tight.Threads = []impl.Thread{thread(3e38, impl.Vector{}, vector(1e-3, 0, 0), vector(0, 1e-3, 0))}
	wantSame(t, tight, "no", "move 3f800000 1", "move 3f800000 32")
}

// TestLinesWithoutParts: what is told of no whirls and no threads.
func TestLinesWithoutParts(t *testing.T) {
	d := leastDesk()
	wantSame(t, d, "none;none", "whirls")
	wantSame(t, d, "none", "threads", "lengths", "roll 3f800000 0")
	wantSame(t, d, "00000000", "spin", "moment", "long", "total")
	wantSame(t, d, "80000000", "energy", "core")
	wantSame(t, d, "0000000000000000", "impulse", "flow 8000000080000000", "flow 3f80000040000000")
	wantSame(t, d, "80000000,80000000", "range")
	wantSame(t, d, "0", "mend 3f800000 3f800000 0", "mend 00000001 3f800000 32")
	wantSame(t, d, "ok", "run 3f800000 128", "move 3f800000 32", "merge 3f800000", "merge 7fc00000", "threads none", "whirls none;none", "core 80000000")
}
