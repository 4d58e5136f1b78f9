package tests

import (
	"fmt"
	"strings"
	"testing"

	"loop.example/g01266/impl"
)

// wantScript checks the outputs of a script at a desk, and the desk behind it.
func wantScript(t *testing.T, d impl.Desk, script, outputs string, want impl.Desk) {
	t.Helper()
	got, told, ok := impl.RunDesk(d, script)
	wantTold(t, fmt.Sprintf("the script %.300q", script), toldDesk(got, told, ok), toldDesk(want, outputs, true))
}

func wantNoScript(t *testing.T, d impl.Desk, list ...string) {
	t.Helper()
	for _, script := range list {
		got, told, ok := impl.RunDesk(d, script)
		wantTold(t, fmt.Sprintf("the script %.300q", script), toldDesk(got, told, ok), "no")
	}
}

func TestScripts(t *testing.T) {
	d := deskOf()
	wantScript(t, d, "", "", d)
	wantScript(t, d, "\n", "what\n", d)
	wantScript(t, d, "\n\n\n", "what\nwhat\nwhat\n", d)
	wantScript(t, d, "core\n", "3e800000\n", d)
	wantScript(t, d, "core\n\ncore\n", "3e800000\nwhat\n3e800000\n", d)
	wantScript(t, d, " core\ncore \ncore\r\n", "what\nno\nwhat\n", d)
	changed := d
	changed.Core, changed.Whirls = 2, nil
	// Each line finds the desk as the one before has left it, also where that has failed.
	wantScript(t, d, "core\ncore 40000000\ncore\ncore bf800000\ncore\nwhirls none;none\nnearest\nspin\n", "3e800000\nok\n40000000\nno\n40000000\nok\nno\n00000000\n", changed)
	wantNoScript(t, d, "core", "\ncore", "core\ncore", "core\n ", " ", "core\r", "\n\n ", "no", "core\n\x00")
}

// TestScriptsUpToTheLimit: a script has at most MaxScript bytes, and its outputs can have more.
func TestScriptsUpToTheLimit(t *testing.T) {
	d := impl.NewDesk()
	wantScript(t, d, strings.Repeat("\n", 16000), strings.Repeat("what\n", 16000), d)
	wantNoScript(t, d, strings.Repeat("\n", 16001), strings.Repeat("\n", 100000), strings.Repeat("core\n", 3201))
	wantScript(t, d, strings.Repeat("core\n", 3200), strings.Repeat("3e000000\n", 3200), d)
	wantScript(t, d, strings.Repeat(" ", 15999)+"\n", "what\n", d)
	wantNoScript(t, d, strings.Repeat(" ", 16000)+"\n", strings.Repeat(" ", 16000), strings.Repeat("x", 15999))
	full := fullDesk()
	_, outputs, ok := impl.RunDesk(full, strings.Repeat("basin\nthreads\n", 1000))
	want := strings.Repeat(textOfBasin(full.Basin)+"\n"+textOfThreads(full.Threads)+"\n", 1000)
	wantBool(t, "long outputs", ok && outputs == want && len(want) > 1000*impl.MaxScript/10, true)
}

func toldCounts(refusals, others int64, ok bool) string {
	if !ok && refusals == 0 && others == 0 {
		return "no"
	}
	return fmt.Sprint(refusals, others, ok)
}

func TestCountOutputs(t *testing.T) {
	for text, want := range map[string]string{
		"": "0 0 true", "\n": "0 1 true", "\n\n": "0 2 true", "no\n": "1 0 true", "what\n": "1 0 true", "ok\n": "0 1 true", "no\nwhat\nno\n": "3 0 true",
		"ok\nno\n3f800000\nwhat\n\nnone\n": "2 4 true", "no": "no", "what": "no", "ok": "no", "ok\nno": "no", "no\nok": "no", " ": "no", "\nx": "no", "no\n ": "no",
		"No\nNO\nWhat\nWHAT\n": "0 4 true", " no\nno \n what\nwhat \n": "0 4 true", "none\nnow\nn\no\nwha\nwhat?\nwhats\nhat\n": "0 8 true",
		"no what\nnono\nwhatwhat\nno,what\n": "0 4 true", "no\r\nwhat\r\n": "0 2 true", "no\x00\n\x00no\n": "0 2 true", "nо\n": "0 1 true", "\xff\n": "0 1 true",
		"0 1 40000000\nno\n": "1 1 true", strings.Repeat("\n", 16000): "0 16000 true", strings.Repeat("\n", 16001): "no",
		strings.Repeat("no\nx\n", 3200): "3200 3200 true", strings.Repeat("no\nx\n", 3201): "no", strings.Repeat("what\n", 3200): "3200 0 true",
		strings.Repeat("x", 15999) + "\n": "0 1 true", strings.Repeat("x", 16000) + "\n": "no", strings.Repeat("x", 16000): "no",
	} {
		wantTold(t, fmt.Sprintf("the outputs %.100q", text), toldCounts(impl.CountOutputs(text)), want)
	}
}

// TestCountsOfScripts: what a desk outputs is counted as it is told.
func TestCountsOfScripts(t *testing.T) {
	script := "core\nspin\n\nnearest\nrun 3f800000 129\nmend 3f800000 3f800000 0\n core\ncore none\nthreads\nring 3 3f800000 00000000 00000000\n"
	_, outputs, ok := impl.RunDesk(impl.NewDesk(), script)
	wantBool(t, "a script", ok, true)
	wantTold(t, "its outputs", toldCounts(impl.CountOutputs(outputs)), "4 6 true")
	_, outputs, ok = impl.RunDesk(impl.NewDesk(), strings.Repeat("\n", 3201))
	wantBool(t, "a long script", ok, true)
	wantTold(t, "outputs that are too long", toldCounts(impl.CountOutputs(outputs)), "no")
}
