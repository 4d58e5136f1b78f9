package tests

import (
	"reflect"
	"runtime"
	"strings"
	"testing"

	"loop.example/g01266/impl"
)

func deskFunctions() map[string]any {
	return map[string]any{
		"ValidDesk": impl.ValidDesk, "SameDesk": impl.SameDesk, "NewDesk": impl.NewDesk,
		"WhirlsText": impl.WhirlsText, "ReadWhirls": impl.ReadWhirls, "SheetText": impl.SheetText, "ReadSheet": impl.ReadSheet,
		"BasinText": impl.BasinText, "ReadBasin": impl.ReadBasin, "ThreadText": impl.ThreadText, "ReadThread": impl.ReadThread,
		"ThreadsText": impl.ThreadsText, "ReadThreads": impl.ReadThreads, "DeskCommand": impl.DeskCommand, "RunDesk": impl.RunDesk,
		"CountOutputs": impl.CountOutputs, "JournalOf": impl.JournalOf, "RecoverJournal": impl.RecoverJournal, "RunJournal": impl.RunJournal,
	}
}

// edgeDesks has valid desks, and those of which a part is not valid.
func edgeDesks() []impl.Desk {
	var list []impl.Desk
	for _, name := range []string{"new", "small", "full", "least", "far"} {
		list = append(list, fineDesks()[name])
	}
	odd := oddDesks()
	for i := 0; i < len(odd); i += 29 {
		list = append(list, odd[i])
	}
	return append(list, impl.Desk{}, impl.Desk{Whirls: []impl.Whirl{}, Core: at(0xffc00001), Threads: []impl.Thread{{}}})
}

// edgeDeskTexts has texts of parts, lines, scripts, outputs and journals, and texts that are nearly such.
func edgeDeskTexts() []string {
	d := fullDesk()
	list := []string{
		textOfWhirls(d.Whirls), textOfSheet(d.Sheet), textOfBasin(d.Basin), textOfThread(d.Threads[1]), textOfThreads(d.Threads),
		"none;none", "none;none;open", "3,3;none", ";", ";;", "|", "/", "\n", "\n\n", " ", "no\nwhat\n", "no", "core\r\n", strings.Join(sessionLines(), "\n") + "\n",
		strings.Repeat("\n", impl.MaxScript), strings.Repeat("\n", impl.MaxScript+1), strings.Repeat("0 \n", 5333), journalOf(sessionLines()...),
		journalOf(journalLines()...) + "1 core", journalOf("move 3dcccccd 1", "run 3dcccccd 2", "roll 3dcccccd 1", "step 3dcccccd 3dcccccd 2")[1:],
	}
	for _, line := range goodLines() {
		list = append(list, line, line+"\n", journalOf(line))
	}
	return append(list, edgeTexts()...)
}

func edgeDeskValues() map[reflect.Type][]reflect.Value {
	lines := [][]string{
		nil, {}, {""}, {"core"}, sessionLines(), oddLines(), {"a\nb"}, make([]string, 5333), make([]string, 5334), {strings.Repeat("x", 20000)}, edgeTexts(),
	}
	return valuesByType(
		valuesOf(edgeDesks()...), valuesOf(edgeDeskTexts()...), valuesOf(lines...), valuesOf(edgeWhirlLists()...), valuesOf(oddLists()[:3]...),
		valuesOf(edgeThreads()...), valuesOf(edgeListsOfThreads()...), valuesOf(edgeBasins()...), valuesOf(oddSheets()...),
		valuesOf(deskOf().Sheet, fullDesk().Sheet, leastDesk().Sheet, farDesk().Sheet),
	)
}

// TestPromise1Desk: every function of chapter 8 returns for all arguments, modifies none, and returns equal results for equal ones.
func TestPromise1Desk(t *testing.T) {
	functions := deskFunctions()
	wantAllFunctions(t, "l08_desk.go", functions)
	checkCalls(t, functions, edgeDeskValues())
}

// TestPromise1DeskWorkers: no worker is left behind by lines that move threads, be they ones that are refused.
func TestPromise1DeskWorkers(t *testing.T) {
	before := runtime.NumGoroutine()
	d := fullDesk()
	for range 20 {
		wantSame(t, d, "no", "move 7f7fffff 1")
		_, output, _ := impl.DeskCommand(d, "move 3a83126f 1")
		wantTold(t, "a move", output, "ok")
	}
	wantNoWorkersSince(t, before)
}

// TestPromise1LongScripts: scripts of as many lines as there can be that do much work come to an end.
func TestPromise1LongScripts(t *testing.T) {
	full := fullDesk()
	for _, line := range []string{"whirls\n", "threads\n", "basin\n", "run 38d1b717 8\n", "roll 38d1b717 2\n", "step 38d1b717 38d1b717 20\n"} {
		count := impl.MaxScript / len(line)
		_, outputs, ok := impl.RunDesk(full, strings.Repeat(line, count))
		wantBool(t, line, ok && strings.Count(outputs, "\n") == count && !strings.Contains(outputs, "what"), true)
	}
}
