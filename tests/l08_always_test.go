package tests

import (
	"fmt"
	"strings"
	"testing"

	"loop.example/g01346/impl"
)

// This file is about promise 1 for chapter 8: every function returns for all
// arguments, modifies none of them, returns equal results for equal ones, and
// zero values where it fails.

// keptDesk holds a desk whose lists have room behind them, and how all of it was.
type keptDesk struct {
	desk                   impl.Desk
	numbers, bounds, gains kept[float32]
	sizes, ways            kept[int64]
	jobs                   kept[impl.Job]
}

func keepDesk(d impl.Desk) keptDesk {
	k := keptDesk{numbers: keep(d.Rows.Numbers, 71), bounds: keep(d.Rows.Bounds, 72), gains: keep(d.Rows.Gains, 73), sizes: keep(d.Sizes, 74), ways: keep(d.Ways, 75), jobs: keep(d.Jobs, jobOf(76, 76, 76, 76))}
	k.desk = impl.Desk{Rows: impl.Rows{Vars: d.Rows.Vars, Numbers: k.numbers.list, Bounds: k.bounds.list, Gains: k.gains.list}, Sizes: k.sizes.list, Jobs: k.jobs.list, Ways: k.ways.list}
	return k
}

func (k keptDesk) is(t *testing.T, what string) {
	t.Helper()
	for _, list := range []kept[float32]{k.numbers, k.bounds, k.gains} {
		list.is(t, what)
	}
	k.sizes.is(t, what)
	k.ways.is(t, what)
	k.jobs.is(t, what)
}

// saysDesk tells a desk, and what is returned with it; noDesk tells the zero one.
func saysDesk(name string, ok bool, d impl.Desk, told any, zero string) outcome {
	return outcome{name, fmt.Sprint(deskText(d), told), deskText(impl.Desk{}) + zero, ok}
}

func outcomesOfDesk(d impl.Desk, text string) []outcome {
	after, output, one := impl.DeskCommand(d, text)
	last, outputs, two := impl.RunDesk(d, text)
	behind, count, three := impl.RunJournal(d, text)
	rows, four := impl.RowsText(d.Rows)
	jobs, five := impl.JobsText(d.Jobs)
	return []outcome{
		saysBool("ValidDesk", impl.ValidDesk(d)), saysBool("SameDesk", impl.SameDesk(d, copyDesk(d))), saysDesk("DeskCommand", one, after, output, ""),
		saysDesk("RunDesk", two, last, outputs, ""), saysDesk("RunJournal", three, behind, count, "0"), {"RowsText", rows, "", four}, {"JobsText", jobs, "", five},
	}
}

func outcomesOfDeskText(text string) []outcome {
	rows, one := impl.ReadRows(text)
	jobs, two := impl.ReadJobs(text)
	bad, good, three := impl.CountOutputs(text)
	lines, length, four := impl.RecoverJournal(text)
	journal, five := impl.JournalOf([]string{text, "tour", text})
	return []outcome{
		saysRows("ReadRows", rows, one), {"ReadJobs", fmt.Sprint(jobs), "[]", two}, says("CountOutputs", three, bad, good),
		{"RecoverJournal", fmt.Sprintf("%q %d", lines, length), "[] 0", four}, {"JournalOf", journal, "", five},
	}
}

func deskTexts() []string {
	texts := append(append(append(edgeTexts(), wrongRowTexts()...), wrongJobTexts()...), "gain\n", "no\nwhat\nok\n", "\n", newRowsText, newJobsText, modelJournal([]string{"tour", "due"}), "42089 tour\n6599 due", "gain\ntour")
	for _, line := range manyLines(7, 200) {
		texts = append(texts, line, line+"\n", modelJournal([]string{line, "tour"}))
	}
	for _, f := range deskForms() {
		texts = append(texts, f.name, f.name+" "+f.word, f.name+" "+f.word+"\n")
	}
	return texts
}

func TestFunctionsOfDesksAlwaysReturn(t *testing.T) {
	desks, texts := append(rightDesks(), wrongDesks()...), deskTexts()
	state := sequence(83)
	for _, d := range desks {
		k := keepDesk(d)
		for range 12 {
			text := texts[state.below(len(texts))]
			first, again := outcomesOfDesk(k.desk, text), outcomesOfDesk(k.desk, text)
			checkOutcomes(t, fmt.Sprintf("%.300s and %.99q", deskText(d), text), first, again)
			k.is(t, fmt.Sprintf("a function of desks, with %.99q", text))
		}
	}
}

// TestEachFormLeavesTheDeskAsItIs gives all forms a desk with room behind its
// lists, and wants that with which a line succeeds and fails.
func TestEachFormLeavesTheDeskAsItIs(t *testing.T) {
	k := keepDesk(newDesk())
	for _, f := range deskForms() {
		for _, word := range []string{"", " ", " " + f.word, " x"} {
			impl.DeskCommand(k.desk, f.name+word)
			impl.RunDesk(k.desk, f.name+word+"\nscale\ndrop 1\nsizes 9\nways 0\njobs 1,2,3,4\n")
			impl.RunJournal(k.desk, modelJournal([]string{f.name + word, "scale", "drop 0"}))
			k.is(t, f.name+word)
		}
	}
}

func TestFunctionsOfDeskTextsAlwaysReturn(t *testing.T) {
	for _, text := range append(deskTexts(), strings.Repeat("gain\n", 100000), strings.Repeat("\n", 100000), strings.Repeat("0 \n", 5333), strings.Repeat(";", 100000)) {
		first, again := outcomesOfDeskText(text), outcomesOfDeskText(text)
		checkOutcomes(t, fmt.Sprintf("%.99q", text), first, again)
	}
	lines := keep([]string{"tour", "due"}, "behind")
	impl.JournalOf(lines.list)
	lines.is(t, "JournalOf")
}

// TestAllFunctionsOfChapter8Succeed wants that none fails where all arguments are
// as they must be.
func TestAllFunctionsOfChapter8Succeed(t *testing.T) {
	for _, d := range rightDesks() {
		for _, text := range []string{"", "gain\n", "x\n", modelJournal([]string{"tour", "due"}), strings.Repeat("\n", 16000)} {
			for _, o := range outcomesOfDesk(d, text) {
				wantBool(t, fmt.Sprintf("%s of %.300s and %.99q", o.name, deskText(d), text), o.ok, true)
			}
		}
	}
}

// TestWrongDesksMakeFunctionsFail wants that for desks in which one thing is
// wrong; SameDesk takes all, and the texts of rows and of jobs are asked where
// these are wrong.
func TestWrongDesksMakeFunctionsFail(t *testing.T) {
	for _, d := range wrongDesks() {
		fails := map[string]bool{"ValidDesk": true, "DeskCommand": true, "RunDesk": true, "RunJournal": true, "RowsText": !impl.ValidRows(d.Rows), "JobsText": !impl.AreJobs(d.Jobs)}
		for _, text := range []string{"", "gain\n", "rows " + newRowsText + "\n", "sizes 4,3,3\n"} {
			for _, o := range outcomesOfDesk(d, text) {
				wantBool(t, fmt.Sprintf("%s of %.300s and %q", o.name, deskText(d), text), o.ok, !fails[o.name])
			}
		}
	}
}

// partsOfDesk tells each list of a desk, and overwrites it with all that is
// behind it.
func partsOfDesk(d impl.Desk) []func() {
	return []func(){
		func() { overwrite(d.Rows.Numbers, 91) }, func() { overwrite(d.Rows.Bounds, 92) }, func() { overwrite(d.Rows.Gains, 93) },
		func() { overwrite(d.Sizes, 94) }, func() { overwrite(d.Ways, 95) }, func() { overwrite(d.Jobs, jobOf(96, 96, 96, 96)) },
	}
}

// listsText tells each list of a desk on its own, and what is behind it.
func listsText(d impl.Desk) []string {
	r := d.Rows
	return []string{
		fmt.Sprint(r.Numbers[:cap(r.Numbers)]), fmt.Sprint(r.Bounds[:cap(r.Bounds)]), fmt.Sprint(r.Gains[:cap(r.Gains)]),
		fmt.Sprint(d.Sizes[:cap(d.Sizes)]), fmt.Sprint(d.Ways[:cap(d.Ways)]), fmt.Sprint(d.Jobs[:cap(d.Jobs)]),
	}
}

// wantUnsharedDesks overwrites one list of one desk after another, and wants all
// other lists of all desks unchanged.
func wantUnsharedDesks(t *testing.T, what string, desks ...impl.Desk) {
	t.Helper()
	all := func() []string {
		var texts []string
		for _, d := range desks {
			texts = append(texts, listsText(d)...)
		}
		return texts
	}
	for i, d := range desks {
		for k, change := range partsOfDesk(d) {
			before := all()
			change()
			after := all()
			wantBool(t, fmt.Sprint(what, ": there is something to overwrite in ", i, " ", k), after[6*i+k] != before[6*i+k], true)
			after[6*i+k] = before[6*i+k]
			wantText(t, fmt.Sprint(what, ": lists besides ", i, " ", k), fmt.Sprint(after), fmt.Sprint(before))
		}
	}
}

func TestDesksShareNothing(t *testing.T) {
	lines := []string{"", "x", "rows x", "sizes 0", "drop 9", "gain"}
	for _, f := range deskForms() {
		lines = append(lines, strings.TrimSuffix(f.name+" "+f.word, " "))
	}
	for _, line := range lines {
		d := keepDesk(newDesk()).desk
		after, _, _ := impl.DeskCommand(d, line)
		last, _, _ := impl.RunDesk(d, line+"\n"+line+"\ngain\n")
		behind, _, _ := impl.RunJournal(d, modelJournal([]string{line, "gain"}))
		wantUnsharedDesks(t, "a desk, and those after "+line, d, after, last, behind)
	}
	d := keepDesk(newDesk()).desk
	none, _, _ := impl.RunDesk(d, "")
	empty, _, _ := impl.RunJournal(d, "")
	wantUnsharedDesks(t, "a desk, and those after no lines", d, none, empty)
	wantUnsharedDesks(t, "new desks", impl.NewDesk(), impl.NewDesk())
	wantText(t, "NewDesk, when others have been overwritten", deskText(impl.NewDesk()), deskText(newDesk()))
}

func TestTextsOfDesksShareNothing(t *testing.T) {
	one, _ := impl.ReadRows(newRowsText)
	two, _ := impl.ReadRows(newRowsText)
	first, _ := impl.ReadJobs(newJobsText)
	second, _ := impl.ReadJobs(newJobsText)
	other := newDesk()
	wantUnsharedDesks(t, "rows and jobs that are read", impl.Desk{Rows: one, Sizes: other.Sizes, Jobs: first, Ways: other.Ways}, impl.Desk{Rows: two, Sizes: ints(1), Jobs: second, Ways: ints(2)})
	journal := modelJournal([]string{"tour", "due"})
	lines, _, _ := impl.RecoverJournal(journal)
	overwrite(lines, "x")
	wantText(t, "lines that are recovered again", recoveredText(journal), intactText([]string{"tour", "due"}))
}
