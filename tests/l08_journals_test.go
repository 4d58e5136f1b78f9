package tests

import (
	"fmt"
	"slices"
	"strings"
	"testing"

	"loop.example/g01266/impl"
)

// journalOf writes a journal without the program.
func journalOf(lines ...string) string {
	journal, check := "", 0
	for _, line := range lines {
		for _, b := range []byte(line) {
			check = (787*check + int(b) + 97) % 65003
		}
		journal += fmt.Sprintf("%d %s\n", check, line)
	}
	return journal
}

func toldRecovered(lines []string, length int64, ok bool) string {
	if !ok && len(lines) == 0 && length == 0 {
		return "no"
	}
	return fmt.Sprintf("%q %d %v", append([]string{}, lines...), length, ok)
}

// wantRecovered checks what is recovered of a text: some lines, whose journal it begins with.
func wantRecovered(t *testing.T, text string, lines ...string) {
	t.Helper()
	want := toldRecovered(lines, int64(len(journalOf(lines...))), true)
	if got := toldRecovered(impl.RecoverJournal(text)); got != want {
		t.Errorf("recovered of %.300q: got %.300s, want %.300s", text, got, want)
	}
}

// wantJournal checks the journal of lines, which are all recovered of it.
func wantJournal(t *testing.T, want string, lines ...string) {
	t.Helper()
	if got, ok := impl.JournalOf(lines); got != want || !ok {
		t.Errorf("the journal of %.300q: got %.300q %v, want %.300q", lines, got, ok, want)
	}
	wantRecovered(t, want, lines...)
}

func wantNoJournal(t *testing.T, lines ...string) {
	t.Helper()
	if got, ok := impl.JournalOf(lines); got != "" || ok {
		t.Errorf("the journal of %.300q: got %.300q %v", lines, got, ok)
	}
}

// oddLines has lines that journals can have, as different as they can be.
func oddLines() []string {
	return []string{
		"core", "", " ", "  core  ", "0", "0 ", "97 a", "what", "\x00", "\xff\xfe\r\t\v", "渦 é", "whirls 3f80000000000000;3f800000", ";|/,", "",
	}
}

func TestJournals(t *testing.T) {
	// These check numbers were computed by hand.
	wantJournal(t, "")
	wantJournal(t, "0 \n", "")
	wantJournal(t, "194 a\n", "a")
	wantJournal(t, "0 \n194 a\n194 \n", "", "a", "")
	wantJournal(t, "194 a\n22866 a\n", "a", "a")
	wantJournal(t, "97 \x00\n", "\x00")
	for i := range oddLines() {
		wantJournal(t, journalOf(oddLines()[:i]...), oddLines()[:i]...)
		wantJournal(t, journalOf(oddLines()[i:]...), oddLines()[i:]...)
	}
	wantJournal(t, strings.Repeat("0 \n", 5000), make([]string, 5000)...)
	for b := range 256 {
		if b != '\n' {
			line := string([]byte{byte(b)})
			wantJournal(t, journalOf(line, "x"+line, line+line), line, "x"+line, line+line)
		}
	}
	for _, line := range []string{"\n", "a\n", "\na", "a\nb", "core\nspin", "\r\n"} {
		wantNoJournal(t, line)
		wantNoJournal(t, "core", line)
		wantNoJournal(t, line, "core")
	}
}

// TestJournalsUpToTheLimit: a journal has at most MaxScript bytes.
func TestJournalsUpToTheLimit(t *testing.T) {
	nothing := make([]string, 5333)
	// 5333 lines of three bytes each leave one byte, which is not enough for another line.
	wantJournal(t, strings.Repeat("0 \n", 5333), nothing...)
	wantNoJournal(t, make([]string, 5334)...)
	for _, length := range []int{16000, 15999} {
		line := lineFor(t, length)
		wantJournal(t, journalOf(line), line)
		wantNoJournal(t, line, strings.Repeat("x", 20))
	}
	wantNoJournal(t, lineFor(t, 16001))
	wantNoJournal(t, strings.Repeat("x", 16000))
	wantNoJournal(t, strings.Repeat("x", 100000))
	wantNoJournal(t, make([]string, 100000)...)
	// Lines in front count with their check numbers, blanks and newlines.
	last := lineFor(t, 16000, "core", "", "spin")
	wantJournal(t, journalOf("core", "", "spin", last), "core", "", "spin", last)
	wantNoJournal(t, "core", "", "spin", lineFor(t, 16001, "core", "", "spin"))
	wantNoJournal(t, "core", "", "spin", last, "")
}

// lineFor returns a line whose journal behind others has so many bytes together with theirs.
func lineFor(t *testing.T, length int, before ...string) string {
	t.Helper()
	for digits := 1; digits <= 5; digits++ {
		line := strings.Repeat("y", length-len(journalOf(before...))-digits-2)
		if len(journalOf(append(before[:len(before):len(before)], line)...)) == length {
			return line
		}
	}
	t.Fatalf("no line has a journal of %d bytes", length)
	return ""
}

// TestRecoveredUpToTheLimit: a text of more than MaxScript bytes is none of which lines are recovered.
func TestRecoveredUpToTheLimit(t *testing.T) {
	for _, more := range []string{"\n", "x", " ", "0 \n"} {
		fine := strings.Repeat("0 \n", 3000) + strings.Repeat(more, 7000/len(more))
		begin := 3000
		if more == "0 \n" {
			begin += 7000 / 3
		}
		wantRecovered(t, fine, make([]string, begin)...)
		wantTold(t, "a text too long", toldRecovered(impl.RecoverJournal(fine+"xx")), "no")
	}
	wantTold(t, "a text too long", toldRecovered(impl.RecoverJournal(strings.Repeat("0 \n", 5334))), "no")
	wantTold(t, "a text too long", toldRecovered(impl.RecoverJournal(strings.Repeat("x", 16001))), "no")
	wantRecovered(t, strings.Repeat("x", 16000))
	wantRecovered(t, strings.Repeat("0 \n", 5333)+"0", make([]string, 5333)...)
}

// TestRecoveredOfOtherTexts: only lines that are written just as a journal has them are recovered.
func TestRecoveredOfOtherTexts(t *testing.T) {
	for _, text := range []string{
		"\n", " ", "0", "0 ", "0\n", " 0 \n", "00 \n", "+0 \n", "-0 \n", "0  \n", "0 \r\n", "0x0 \n", "1 \n", "65003 \n", "a\n", "194 b\n", "194 a", "194a\n", "194\ta\n",
		"0194 a\n", "+194 a\n", " 194 a\n", "194  a\n", "194 a \n", "195 a\n", "65197 a\n", "-64809 a\n", "194.0 a\n", "194 a\r\n", "194 \na\n", "\x00194 a\n", "none", "\xff",
	} {
		wantRecovered(t, text)
		wantRecovered(t, journalOf("core")+text, "core")
	}
	// The second check number begins with the first one, and not with 0.
	wantRecovered(t, "194 a\n194 a\n", "a")
	wantRecovered(t, "22866 a\n")
	wantRecovered(t, journalOf("a")+journalOf("b"), "a")
	wantRecovered(t, journalOf("a", "b", "c")[len(journalOf("a")):])
	for _, behind := range []string{"x", "\n", " ", "\n\n", "0 \n", "core\n", "\x00", journalOf("a"), strings.Repeat("z", 1000)} {
		wantRecovered(t, journalOf("core", "", "spin")+behind, "core", "", "spin")
	}
}

// TestRunJournals: what is recovered is carried out, and counted also where it is refused.
func TestRunJournals(t *testing.T) {
	d := deskOf()
	for _, lines := range [][]string{nil, {""}, {"core"}, {"core 3f800000", "what", "", "core bf800000", "spin"}, oddLines(), {"ring 3 3f800000 00000000 3f800000", "threads none", "core 00000000"}} {
		want := d
		for _, line := range lines {
			after, _, ok := impl.DeskCommand(want, line)
			wantBool(t, line, ok, true)
			want = after
		}
		got, count, ok := impl.RunJournal(d, journalOf(lines...))
		wantTold(t, fmt.Sprintf("the journal of %q", lines), toldDesk(got, count, ok), toldDesk(want, int64(len(lines)), true))
		got, count, ok = impl.RunJournal(d, journalOf(lines...)+"1 whirls none;none\n")
		wantTold(t, fmt.Sprintf("the journal of %q with more", lines), toldDesk(got, count, ok), toldDesk(want, int64(len(lines)), true))
	}
	for _, text := range []string{strings.Repeat("0 \n", 5334), strings.Repeat("x", 16001)} {
		got, count, ok := impl.RunJournal(d, text)
		wantTold(t, "a text too long", toldDesk(got, count, ok), "no")
	}
	got, count, ok := impl.RunJournal(d, strings.Repeat("0 \n", 5333))
	wantTold(t, "empty lines", toldDesk(got, count, ok), toldDesk(d, int64(5333), true))
}

// TestCheckedLines: journals are read as the check numbers of chapter 1 tell them.
func TestCheckedLines(t *testing.T) {
	var check int64
	for i, line := range oddLines() {
		check, _ = impl.CheckOf(check, line)
		begin, end := journalOf(oddLines()[:i]...), journalOf(oddLines()[:i+1]...)
		wantTold(t, fmt.Sprint("line ", i), end[len(begin):], impl.Decimal(check)+" "+line+"\n")
	}
	wantBool(t, "lines of all kinds", slices.Contains(oddLines(), ""), true)
}
