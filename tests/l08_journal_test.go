package tests

import (
	"fmt"
	"regexp"
	"slices"
	"strings"
	"testing"

	"loop.example/g01346/impl"
)

// modelJournal returns the journal of lines without newlines, however long it is.
func modelJournal(lines []string) string {
	journal, check := "", 0
	for _, line := range lines {
		check = checkNumber(check, line)
		journal += fmt.Sprintf("%d %s\n", check, line)
	}
	return journal
}

var entryForm = regexp.MustCompile(`^([0-9]+) ([^\n]*)\n`)

// modelRecovered returns the lines with whose journal a text begins: a line at a
// time, as long as the journal of all of them does.
func modelRecovered(s string) []string {
	var lines []string
	for rest := s; ; {
		entry := entryForm.FindStringSubmatch(rest)
		if entry == nil || !strings.HasPrefix(s, modelJournal(append(lines, entry[2]))) {
			return lines
		}
		lines, rest = append(lines, entry[2]), rest[len(entry[0]):]
	}
}

func journalText(lines []string) string {
	journal, ok := impl.JournalOf(lines)
	return fmt.Sprintf("%q %v", journal, ok)
}

func recoveredText(s string) string {
	lines, length, ok := impl.RecoverJournal(s)
	return fmt.Sprintf("%q %d %v", lines, length, ok)
}

// intactText is what recoveredText tells of lines that come back.
func intactText(lines []string) string {
	return fmt.Sprintf("%q %d true", lines, len(modelJournal(lines)))
}

func journalLines() [][]string {
	return [][]string{
		nil, {"tour"}, {"tour", "due"}, {""}, {"", ""}, {"", "gain", ""}, {" "}, {"  ", " a  b "}, {"0 "}, {"276 a"}, {"a", "a", "a"}, {"\x00", "\xff\xfe", "é", "\r", "\t", "a\rb"}, {"sizes 1,2", "sizes", "halves", "what", "rows x"},
		{"rows " + newRowsText, "jobs " + newJobsText, "ways " + newWaysText, "gain"}, {strings.Repeat("x", 15000)}, repeat(5333, ""), repeat(8, strings.Repeat("long ", 300)),
	}
}

func TestJournalOf(t *testing.T) {
	for _, c := range []struct {
		lines []string
		want  string
	}{
		{nil, ""}, {[]string{}, ""}, {[]string{""}, "0 \n"}, {[]string{"", ""}, "0 \n0 \n"}, {[]string{"a"}, "276 a\n"}, {[]string{"a", "", "\x00"}, "276 a\n276 \n55502 \x00\n"}, {[]string{"\x00", "\x01"}, "179 \x00\n32527 \x01\n"},
		{[]string{"tour"}, "42089 tour\n"}, {[]string{"tour", "due"}, "42089 tour\n6599 due\n"}, {[]string{"due", "tour"}, "2218 due\n33323 tour\n"}, {[]string{"b"}, "277 b\n"}, {[]string{"276 a"}, "53172 276 a\n"},
	} {
		wantText(t, fmt.Sprintf("JournalOf %q", c.lines), journalText(c.lines), fmt.Sprintf("%q true", c.want))
		wantText(t, fmt.Sprintf("RecoverJournal %q", c.want), recoveredText(c.want), intactText(c.lines))
	}
	for _, lines := range journalLines() {
		journal := modelJournal(lines)
		wantText(t, fmt.Sprintf("JournalOf %.99q", lines), journalText(lines), fmt.Sprintf("%q true", journal))
		wantText(t, fmt.Sprintf("RecoverJournal %.99q", journal), recoveredText(journal), intactText(lines))
	}
	for _, line := range []string{"\n", "a\nb", "a\n", "\na", "a\r\nb", "\n\n", "tour\n42089 tour"} {
		for _, lines := range [][]string{{line}, {line, "tour"}, {"tour", line}, {"tour", line, "due"}} {
			wantText(t, fmt.Sprintf("JournalOf %q", lines), journalText(lines), `"" false`)
		}
	}
}

func TestLongJournals(t *testing.T) {
	// Check numbers do not all have 5 digits, but those of some lines do.
	fill := func(total int) []string {
		for _, letter := range "abcdefgh" {
			if lines := []string{"tour", strings.Repeat(string(letter), total-18)}; len(modelJournal(lines)) == total {
				return lines
			}
		}
		return nil
	}
	for _, c := range []struct {
		what  string
		lines []string
		size  int
		ok    bool
	}{
		{"a journal of as many bytes as there can be", fill(16000), 16000, true},
		{"one byte less", fill(15999), 15999, true},
		{"one byte more", fill(16001), 16001, false},
		{"many empty lines", repeat(5333, ""), 15999, true},
		{"one empty line more", repeat(5334, ""), 16002, false},
		{"a line of as many bytes", []string{strings.Repeat("x", 16000)}, 16007, false},
		{"very many lines", repeat(10000, "gain"), 108301, false},
		{"a very long line", []string{strings.Repeat("x", 1000000)}, 1000007, false},
	} {
		journal := modelJournal(c.lines)
		wantText(t, c.what, fmt.Sprint(len(journal)), fmt.Sprint(c.size))
		want, recovered := `"" false`, `[] 0 false`
		if c.ok {
			want, recovered = fmt.Sprintf("%q true", journal), intactText(c.lines)
		}
		wantText(t, "JournalOf of "+c.what, journalText(c.lines), want)
		wantText(t, "RecoverJournal of "+c.what, recoveredText(journal), recovered)
		last, count, ok := impl.RunJournal(impl.NewDesk(), journal)
		wantBool(t, "RunJournal of "+c.what, ok, c.ok)
		if wanted := int64(len(c.lines)); c.ok {
			wantBool(t, "how many lines RunJournal of "+c.what+" carries out", count == wanted && impl.SameDesk(last, newDesk()), true)
		} else {
			wantText(t, "RunJournal of "+c.what, fmt.Sprint(deskText(last), count), fmt.Sprint(deskText(impl.Desk{}), 0))
		}
	}
	for size, want := range map[int]string{16000: "[] 0 true", 16001: "[] 0 false", 1000000: "[] 0 false"} {
		for _, s := range []string{"x", "\n", " ", "0", "\x00"} {
			wantText(t, fmt.Sprintf("RecoverJournal, so many %q: %d", s, size), recoveredText(strings.Repeat(s, size)), want)
		}
	}
	tour := modelJournal([]string{"tour"})
	wantText(t, "RecoverJournal with bytes behind, as many as there can be", recoveredText(tour+strings.Repeat("x", 16000-len(tour))), intactText([]string{"tour"}))
	wantText(t, "RecoverJournal with bytes behind, and one more", recoveredText(tour+strings.Repeat("x", 16001-len(tour))), "[] 0 false")
}

// TestTextsThatAreNoJournals looks at texts that nearly are.
func TestTextsThatAreNoJournals(t *testing.T) {
	none := []string{
		"", "\n", " \n", "0\n", "0", "0 ", " 0 \n", "00 \n", "+0 \n", "-0 \n", "0  \n", "0\t\n", "0x0 \n", "0. \n", "1 \n", "65003 \n", "-65003 \n", "276  a\n", "276 a", "276 a\r\n", "276\ta\n", "276a\n", "276,a\n", "0276 a\n", "+276 a\n", " 276 a\n",
		"276 b\n", "277 a\n", "275 a\n", "65279 a\n", "27 6 a\n", "٢٧٦ a\n", "none\n", "tour\n", "42089 tour", "42089 Tour\n", "42089 tour \n", "42089  tour\n", "42090 tour\n", "42089\ntour\n", "42089 to\nur\n", "\n42089 tour\n", "6599 due\n",
	}
	tour, both := modelJournal([]string{"tour"}), modelJournal([]string{"tour", "due"})
	for _, s := range append(none, edgeTexts()...) {
		wantText(t, fmt.Sprintf("RecoverJournal %.99q", s), recoveredText(s), "[] 0 true")
		wantText(t, fmt.Sprintf("RecoverJournal %.99q behind a line", s), recoveredText(tour+s), map[bool]string{false: intactText([]string{"tour"}), true: intactText([]string{"tour", "due"})}[s == "6599 due\n"])
		wantText(t, fmt.Sprintf("RecoverJournal %.99q before a line", s+"\n"), recoveredText(s+"\n"+tour), intactText(modelRecovered(s+"\n"+tour)))
	}
	wantText(t, "a line whose check number begins with 0 again", recoveredText(tour+tour), intactText([]string{"tour"}))
	wantText(t, "lines in another order", recoveredText(both[len(tour):]+tour), "[] 0 true")
	wantText(t, "a journal behind itself", recoveredText(both+both), intactText([]string{"tour", "due"}))
}

// TestJournalsThatAreCutOrChanged cuts a journal at each byte, and changes each
// byte of it to each other one, takes it out, and doubles it: what is intact
// before comes back, and is carried out.
func TestJournalsThatAreCutOrChanged(t *testing.T) {
	lines := []string{"sizes 1,2", "halves", "", "tours", "sizes 5", " x "}
	journal, ends, desks := modelJournal(lines), []int{0}, []impl.Desk{newDesk()}
	for i, line := range lines {
		after, _ := modelLine(desks[i], line)
		ends, desks = append(ends, len(modelJournal(lines[:i+1]))), append(desks, after)
	}
	check := func(what, s string, at int) {
		count := 0
		for count < len(lines) && ends[count+1] <= at {
			count++
		}
		wantText(t, what, recoveredText(s), intactText(lines[:count]))
		wantBool(t, what+": that is what the model recovers", slices.Equal(modelRecovered(s), lines[:count]), true)
		last, told, ok := impl.RunJournal(newDesk(), s)
		wantText(t, "RunJournal, "+what, fmt.Sprint(deskText(last), told, ok), fmt.Sprint(deskText(desks[count]), count, true))
	}
	for at := range len(journal) + 1 {
		check(fmt.Sprint("cut at ", at), journal[:at], at)
		for _, behind := range []string{"\x00", "x", "\xff", "x\n", "1 \n1 \n"} {
			if behind[0] != (journal + "\n")[at] {
				check(fmt.Sprintf("cut at %d, with %q behind", at, behind), journal[:at]+behind, at)
			}
		}
	}
	for at := range len(journal) {
		for by := 1; by < 256; by++ {
			check(fmt.Sprintf("changed at %d by %d", at, by), journal[:at]+string([]byte{journal[at] ^ byte(by)})+journal[at+1:], at)
		}
		if at+1 < len(journal) && journal[at] != journal[at+1] {
			check(fmt.Sprint("without the byte ", at), journal[:at]+journal[at+1:], at)
			check(fmt.Sprint("with the byte twice: ", at), journal[:at]+journal[at:at+1]+journal[at:], at+1)
		}
	}
}

func TestRunJournal(t *testing.T) {
	for i, lines := range append(journalLines(), []string{"sizes 1,2", "ways 0", "drop 0"}, []string{"sizes 9", "sizes 0"}, []string{"x"}) {
		for _, d := range []impl.Desk{newDesk(), leastDesk(), fullDesk()} {
			want := copyDesk(d)
			for _, line := range lines {
				want, _ = modelLine(want, line)
			}
			last, count, ok := impl.RunJournal(d, modelJournal(lines))
			wantText(t, fmt.Sprint("RunJournal of the lines ", i), fmt.Sprint(deskText(last), count, ok), fmt.Sprint(deskText(want), len(lines), true))
			last, count, ok = impl.RunJournal(d, modelJournal(lines)[:max(0, len(modelJournal(lines))-1)])
			want = copyDesk(d)
			for _, line := range lines[:max(0, len(lines)-1)] {
				want, _ = modelLine(want, line)
			}
			wantText(t, fmt.Sprint("RunJournal without the last newline ", i), fmt.Sprint(deskText(last), count, ok), fmt.Sprint(deskText(want), max(0, len(lines)-1), true))
		}
	}
	for _, d := range wrongDesks() {
		for _, journal := range []string{"", "x", modelJournal([]string{"tour"}), modelJournal([]string{"sizes 4,3,3"})} {
			last, count, ok := impl.RunJournal(d, journal)
			wantText(t, fmt.Sprintf("RunJournal of %q at %.300s", journal, deskText(d)), fmt.Sprint(deskText(last), count, ok), fmt.Sprint(deskText(impl.Desk{}), 0, false))
		}
	}
}

// TestJournalsOfManyLines keeps scripts in journals, and carries both out.
func TestJournalsOfManyLines(t *testing.T) {
	for i, d := range manyDesks(40) {
		var lines []string
		for _, line := range manyLines(300+i, 2*i) {
			if more := append(lines, line); !strings.Contains(line, "\n") && len(modelJournal(more)) <= 16000 {
				lines = more
			}
		}
		journal := modelJournal(lines)
		wantText(t, fmt.Sprint("the journal ", i), journalText(lines), fmt.Sprintf("%q true", journal))
		wantText(t, fmt.Sprint("the lines of the journal ", i), recoveredText(journal), intactText(lines))
		byScript, _, one := impl.RunDesk(d, strings.Join(append(lines, ""), "\n"))
		byJournal, count, two := impl.RunJournal(d, journal)
		wantText(t, fmt.Sprint("the desk behind the journal ", i), fmt.Sprint(deskText(byJournal), count, two), fmt.Sprint(deskText(byScript), len(lines), one))
	}
}
