package tests

import (
	"fmt"
	"reflect"
	"strings"
	"testing"

	"loop.example/g01266/impl"
)

// textForm has the functions that write and read the texts of one kind.
type textForm[T any] struct {
	name  string
	write func(T) (string, bool)
	read  func(string) (T, bool)
}

func whirlsForm() textForm[[]impl.Whirl] {
	return textForm[[]impl.Whirl]{"whirls", impl.WhirlsText, impl.ReadWhirls}
}

func sheetForm() textForm[impl.Sheet] {
	return textForm[impl.Sheet]{"sheet", impl.SheetText, impl.ReadSheet}
}

func basinForm() textForm[impl.Basin] {
	return textForm[impl.Basin]{"basin", impl.BasinText, impl.ReadBasin}
}

func threadForm() textForm[impl.Thread] {
	return textForm[impl.Thread]{"thread", impl.ThreadText, impl.ReadThread}
}

func threadsForm() textForm[[]impl.Thread] {
	return textForm[[]impl.Thread]{"threads", impl.ThreadsText, impl.ReadThreads}
}

// tellAll tells a value to the last bit.
func tellAll(x any) string { return describe(reflect.ValueOf(x)) }

// wantText checks the text of a value, which must be read back to the last bit.
func (f textForm[T]) wantText(t *testing.T, x T, want string) {
	t.Helper()
	if got, ok := f.write(x); got != want || !ok {
		t.Errorf("the text of %s: got %.300q %v, want %.300q", f.name, got, ok, want)
	}
	if got, ok := f.read(want); tellAll(got) != tellAll(x) || !ok {
		t.Errorf("%s of %.300q: got %.300s %v, want %.300s", f.name, want, tellAll(got), ok, tellAll(x))
	}
}

// wantNoText checks that values that are not valid have no text.
func (f textForm[T]) wantNoText(t *testing.T, list ...T) {
	t.Helper()
	for i, x := range list {
		if got, ok := f.write(x); got != "" || ok {
			t.Errorf("the text of odd %s %d: got %.300q %v", f.name, i, got, ok)
		}
	}
}

// wantUnread checks texts that nothing has.
func (f textForm[T]) wantUnread(t *testing.T, list ...string) {
	t.Helper()
	var zero T
	for _, text := range list {
		if got, ok := f.read(text); tellAll(got) != tellAll(zero) || ok {
			t.Errorf("%s of %.300q: got %.300s %v", f.name, text, tellAll(got), ok)
		}
	}
}

// commaText is NumbersText, told without the program.
func commaText(list ...float32) string {
	if len(list) == 0 {
		return "none"
	}
	return strings.ReplaceAll(wordsOf(list), " ", ",")
}

// pointText is ComplexText, told without the program.
func pointText(list ...complex64) string {
	if len(list) == 0 {
		return "none"
	}
	var words []string
	for _, x := range list {
		words = append(words, strings.ReplaceAll(wordsOf(parts(x)), " ", ""))
	}
	return strings.Join(words, ",")
}

// deskOf returns a desk with small parts, no two numbers of which are the same.
func deskOf() impl.Desk {
	return impl.Desk{
		Whirls:  []impl.Whirl{whirl(1, 2, 0.5), whirl(-3, minusZero, -0.75), whirl(0, 4, 1.5)},
		Core:    0.25,
		Sheet:   closedSheet(1, 1, 0.5, -1, 2, 1.5, -2, -1, -0.25, 1.5, -2, 3),
		Basin:   manyCells(4, 3),
		Threads: manyThreads(2),
	}
}

// fullDesk has as much as a desk can have.
func fullDesk() impl.Desk {
	list := manyThreads(impl.MaxThreads)
	list[1] = manyCorners(impl.MaxThread)
	return impl.Desk{
		Whirls: manyWhirls(impl.MaxWhirls), Core: 1, Sheet: manyPoints(impl.MaxSheet, true),
		Basin: manyCells(impl.MaxSide, impl.MaxSide), Threads: list,
	}
}

// leastDesk has as little as a desk can have, and zeros with signs.
func leastDesk() impl.Desk {
	return impl.Desk{Core: minusZero, Sheet: openSheet(minusZero, 0, minusZero, 0, minusZero, 0), Basin: evenCells(3, 3, minusZero)}
}

// farDesk is valid, but many functions fail with its parts.
func farDesk() impl.Desk {
	large, corner := float32(3e38), vector(3e38, 0, 0)
	return impl.Desk{
		Whirls:  []impl.Whirl{whirl(large, 0, large), whirl(-large, 0, large)},
		Sheet:   openSheet(large, 0, large, -large, 0, large, 0, large, -1),
		Basin:   evenCells(3, 3, large),
		Threads: []impl.Thread{thread(large, corner, vector(-3e38, 0, 0), vector(0, 3e38, 0))},
	}
}

// fineDesks has valid desks of all kinds.
func fineDesks() map[string]impl.Desk {
	return map[string]impl.Desk{"new": impl.NewDesk(), "small": deskOf(), "full": fullDesk(), "least": leastDesk(), "far": farDesk()}
}

// oddDesks has desks of which one part alone is not valid.
func oddDesks() []impl.Desk {
	var list []impl.Desk
	add := func(change func(d *impl.Desk)) {
		d := deskOf()
		change(&d)
		list = append(list, d)
	}
	for _, whirls := range oddLists() {
		add(func(d *impl.Desk) { d.Whirls = whirls })
	}
	for _, core := range oddSizes() {
		add(func(d *impl.Desk) { d.Core = core })
	}
	for _, sheet := range oddSheets() {
		add(func(d *impl.Desk) { d.Sheet = sheet })
	}
	for _, basin := range oddBasins() {
		add(func(d *impl.Desk) { d.Basin = basin })
	}
	for _, odd := range oddThreads() {
		add(func(d *impl.Desk) { d.Threads = []impl.Thread{odd} })
		add(func(d *impl.Desk) { d.Threads = append(d.Threads, odd) })
	}
	add(func(d *impl.Desk) { d.Threads = manyThreads(impl.MaxThreads + 1) })
	return append(list, impl.Desk{})
}

// toldDesk tells the desk and the output of a function, with no for a failure.
func toldDesk(d impl.Desk, output any, ok bool) string {
	switch {
	case ok:
		return fmt.Sprint(output, " at ", tellAll(d))
	case !reflect.ValueOf(output).IsZero() || tellAll(d) != tellAll(impl.Desk{}):
		return "no, but not zero"
	}
	return "no"
}

// wantLine checks the output of a line at a desk, and the desk behind it.
func wantLine(t *testing.T, d impl.Desk, line, output string, want impl.Desk) {
	t.Helper()
	got, told, ok := impl.DeskCommand(d, line)
	if told != output || !ok {
		t.Errorf("%.300q: got %.300q %v, want %.300q", line, told, ok, output)
	}
	if tellAll(got) != tellAll(want) {
		t.Errorf("%.300q: got the desk %.300s, want %.300s", line, tellAll(got), tellAll(want))
	}
}

// wantSame checks the output of lines that change nothing.
func wantSame(t *testing.T, d impl.Desk, output string, lines ...string) {
	t.Helper()
	for _, line := range lines {
		wantLine(t, d, line, output, d)
	}
}
