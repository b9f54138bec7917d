package tests

import (
	"fmt"
	"slices"
	"strings"
	"testing"

	"loop.example/g01346/impl"
)

// lineText tells the output of a line, and, if the desk is another one then, the
// texts of its parts.
func lineText(d impl.Desk, line string) string {
	after, output, ok := impl.DeskCommand(d, line)
	if !ok {
		return fmt.Sprintf("fails, %q, %v", output, deskText(after) == deskText(impl.Desk{}))
	}
	if deskText(after) == deskText(d) {
		return output
	}
	return fmt.Sprintf("%s: %s %s %s %s", output, modelRowsText(after.Rows), modelIntegers(after.Sizes), modelJobsText(after.Jobs), modelIntegers(after.Ways))
}

// Texts of the parts of a new desk.
const (
	newRowsText = "2;3f800000,3f800000,3f800000,00000000;40800000,40400000;40000000,3f800000"
	newJobsText = "2,2,1,0,1,3,1,0"
	newWaysText = "0,1,2,1,1,0,1,2,2,1,0,1,1,2,1,0"
)

// deskForm is a form of lines: a name, a word behind it, or "" if it has none,
// and what lineText tells of such a line at a new desk.
type deskForm struct{ name, word, want string }

func deskForms() []deskForm {
	return []deskForm{
		{"rows", "1;3f800000;40000000;40400000", "ok: 1;3f800000;40000000;40400000 4,3,3 " + newJobsText + " " + newWaysText},
		{"sizes", "1,2", "ok: " + newRowsText + " 1,2 " + newJobsText + " " + newWaysText},
		{"jobs", "1,2,3,4", "ok: " + newRowsText + " 4,3,3 1,2,3,4 " + newWaysText},
		{"ways", "0,7,7,0", "ok: " + newRowsText + " 4,3,3 " + newJobsText + " 0,7,7,0"},
		{"rows", "", newRowsText}, {"sizes", "", "4,3,3"}, {"jobs", "", newJobsText}, {"ways", "", newWaysText},
		{"solve", "", "40400000,3f800000"}, {"prices", "", "3f800000,3f800000"}, {"gain", "", "40e00000"},
		{"scale", "", "ok"},
		{"drop", "1", "ok: 2;3f800000,3f800000;40800000;40000000,3f800000 4,3,3 " + newJobsText + " " + newWaysText},
		{"fill", "6", "1"}, {"bins", "5", "3"}, {"least", "6", "2"}, {"halves", "", "2"},
		{"tour", "", "0,1,2,3"}, {"long", "", "4"}, {"bound", "", "4"}, {"raise", "0", "4"},
		{"due", "", "0,1"}, {"smith", "", "1,0"}, {"ontime", "", "0,1"}, {"late", "", "0"}, {"heads", "", "3"}, {"list", "1", "3"}, {"span", "2", "2"},
	}
}

// otherNumbers are words that are no numbers in decimal.
func otherNumbers() []string {
	return []string{
		"", "x", "01", "00", "+1", "-0", "--1", "1-", "1.", "1.0", "0x1", "1e0", "1_0", "1,2", "1;", "none", "\t1", "1\t", "1\n", "\n1", "1\r", "1\x00", "\x00", "\xff", "١", "１", "one",
		"1000000000000001", "-1000000000000001", "9223372036854775808", strings.Repeat("1", 5000),
	}
}

// TestForms writes each form as it must be, and then with a word too few, a word
// too many, an empty word, and blanks where there must be none.
func TestForms(t *testing.T) {
	both := []string{"rows", "sizes", "jobs", "ways"}
	for _, f := range deskForms() {
		line, isBoth := f.name, slices.Contains(both, f.name)
		if f.word != "" {
			line += " " + f.word
			if !isBoth {
				wantText(t, "a word too few: "+f.name, lineText(newDesk(), f.name), "what")
			}
			for _, word := range append(otherNumbers(), "-1", "-2", "1001", "4294967297") {
				if line == "sizes "+word { // sizes have a list of numbers
					continue
				}
				wantText(t, fmt.Sprintf("a word that is not what it must be: %s %.99q", f.name, word), lineText(newDesk(), f.name+" "+word), "no")
			}
		} else if !isBoth {
			for _, word := range append(otherNumbers(), "0", "1", "2") {
				wantText(t, fmt.Sprintf("a word too many: %s %.99q", f.name, word), lineText(newDesk(), f.name+" "+word), "what")
			}
		}
		wantText(t, line, lineText(newDesk(), line), f.want)
		if f.word != "" || isBoth {
			wantText(t, "an empty word: "+f.name, lineText(newDesk(), f.name+" "), "no")
		}
		others := []string{
			" " + line, "  " + line, line + "  ", f.name + "  " + f.word, "\t" + line, "\n" + line, "x" + line, strings.ToUpper(line[:1]) + line[1:], "x " + line, f.name[1:], f.name[:len(f.name)-1], f.name + "s" + line[len(f.name):],
			f.name + "\t" + f.word, f.name + "\n" + f.word, f.name + "," + f.word, f.name + "\u00a0" + f.word, f.name + "\x00" + line[len(f.name):], line + " x y", line + " 1 ", line + "  1", line + " " + line + " " + line,
		}
		if f.word != "" {
			others = append(others, line+" ", line+" x", line+" 1", line+" "+f.word, f.name+f.word, f.name+"  "+f.word, f.word, f.word+" "+f.name)
		} else {
			others = append(others, line+"\n", line+"\t", line+"x", line+"1")
		}
		for _, other := range others {
			wantText(t, fmt.Sprintf("a line of no form: %q", other), lineText(newDesk(), other), "what")
		}
	}
	for _, line := range append(edgeTexts(), "  ", "\n", "\n\n", "ok", "no", "what", "help", "row", "size", "job", "way", "rays", "names 1", "pack 5", "bins5", "N", "drop N", "TEXT", "rows;", "rows,sizes", strings.Repeat(" ", 100000), strings.Repeat("gain ", 100000)) {
		want := "what"
		if line == "drop N" {
			want = "no"
		}
		wantText(t, fmt.Sprintf("a line of no form: %.99q", line), lineText(newDesk(), line), want)
	}
}

// TestNumbersAtLimits gives lines the least and the greatest numbers with which
// they have an output at a new desk, and those beyond.
func TestNumbersAtLimits(t *testing.T) {
	for _, c := range []struct {
		name, before, first, last, after string
	}{
		{"fill", "-1", "0", "1000", "1001"}, {"bins", "3", "4", "1000", "1001"}, {"least", "3", "4", "1000", "1001"}, {"raise", "-1", "0", "50", "51"},
		{"list", "0", "1", "8", "9"}, {"span", "0", "1", "8", "9"}, {"drop", "-1", "0", "1", "2"},
	} {
		for _, n := range []string{c.before, c.after} {
			wantText(t, c.name+" "+n, lineText(newDesk(), c.name+" "+n), "no")
		}
		for _, n := range []string{c.first, c.last} {
			got := lineText(newDesk(), c.name+" "+n)
			wantBool(t, c.name+" "+n+" outputs "+got, got != "no" && got != "what", true)
		}
	}
}

// TestPartsThatAreRead gives the desk parts that it takes, and such after which
// it would not be valid.
func TestPartsThatAreRead(t *testing.T) {
	taken := map[string][]string{
		"rows":  {newRowsText, modelRowsText(fullRows()), "1;00000000;00000000;00000000", "1;80000000;80000000;80000000", "1;3f800000,7f7fffff;40000000,00000001;ff7fffff"},
		"sizes": {"1", "1000", "4,3,3", "1,1000", modelIntegers(repeat(16, int64(1000)))},
		"jobs":  {newJobsText, "1,0,0,0", modelJobsText(repeat(12, edgeJob()))},
		"ways":  {newWaysText, "0", "0,0,0,0", "0,1000,1000,0", modelIntegers(equalWays(8, 1000)), modelIntegers(make([]int64, 64)), modelIntegers(equalWays(7, 1))},
	}
	for name, texts := range taken {
		for _, text := range texts {
			after, output, ok := impl.DeskCommand(newDesk(), name+" "+text)
			wantText(t, name+" "+text, fmt.Sprint(output, ok), "oktrue")
			_, told, _ := impl.DeskCommand(after, name)
			wantText(t, name+" behind "+text, told, text)
		}
	}
	refused := map[string][]string{
		"rows":  wrongRowTexts(),
		"sizes": {"none", "0", "1001", "-1", "1,0", "1,,2", "1;2", "01", modelIntegers(repeat(17, int64(1))), modelIntegers(repeat(64, int64(1))), modelIntegers(repeat(65, int64(1)))},
		"jobs":  wrongJobTexts(),
		"ways":  {"none", "1", "-1", "0,1,2,0", "0,1,1,1", "1,1,1,0", "0,1001,1001,0", "0,-1,-1,0", "0,0", "0,0,0", "0,0,0,0,0", modelIntegers(equalWays(9, 1)), modelIntegers(equalWays(10, 0)), modelIntegers(make([]int64, 63)), modelIntegers(make([]int64, 81))},
	}
	for name, texts := range refused {
		for _, text := range texts {
			if !strings.Contains(text, " ") {
				wantText(t, fmt.Sprintf("%s %.99q", name, text), lineText(newDesk(), name+" "+text), "no")
			}
		}
	}
}

// partialRows have a best plan with a gain, of which the first two products have
// a sum that is not finite.
func partialRows() impl.Rows {
	tenth := num(bitsMost) / 10
	return impl.Rows{Vars: 3, Numbers: []float32{1, 0, -1, 0, 1, 0, 0, 0, 1}, Bounds: []float32{0, 7 * tenth, 4.5 * tenth}, Gains: []float32{2, 1, -1.5}}
}

// TestLinesWhoseFunctionsFail is about lines of right forms at valid desks.
func TestLinesWhoseFunctionsFail(t *testing.T) {
	rows := func(r impl.Rows) impl.Desk { return newDeskBut(func(d *impl.Desk) { d.Rows = r }) }
	sizes := func(list ...int64) impl.Desk { return newDeskBut(func(d *impl.Desk) { d.Sizes = list }) }
	jobs := func(list []impl.Job) impl.Desk { return newDeskBut(func(d *impl.Desk) { d.Jobs = list }) }
	ways := func(list []int64) impl.Desk { return newDeskBut(func(d *impl.Desk) { d.Ways = list }) }
	endless, tiny, partial := oneRow(1, []float32{0}, []float32{1}), oneRow(num(bitsMost), []float32{num(bitsLeast)}, []float32{1}), partialRows()
	for _, c := range []struct {
		what  string
		d     impl.Desk
		lines string
		want  string
	}{
		{"rows with a ray", rows(endless), "solve,prices,gain,drop 0,scale", "no no no no ok"},
		{"rows that can't be scaled", rows(tiny), "scale,rows,solve", "no 1;00000001;7f7fffff;3f800000 no"},
		{"a gain that is not finite", rows(partial), "solve,gain", modelHexes([]float32{partial.Bounds[2], partial.Bounds[1], partial.Bounds[2]}) + " no"},
		{"a size greater than the room", sizes(5, 1), "bins 4,least 4,fill 4,bins 5,least 5", "no no 0 2 2"},
		{"10 sizes", sizes(repeat(10, int64(1))...), "least 5,bins 5", "2 2"},
		{"11 sizes", sizes(repeat(11, int64(1))...), "least 5,bins 5", "no 3"},
		{"one city", ways(ints(0)), "tour,long,bound,raise 0", "0 0 no no"},
		{"two cities", ways(ints(0, 3, 3, 0)), "tour,long,bound,raise 0", "0,1 6 no no"},
		{"three cities", ways(equalWays(3, 5)), "tour,long,bound,raise 0", "0,1,2 15 15 15"},
		{"9 jobs", jobs(repeat(9, jobOf(2, 1, 1, 0))), "span 4,list 4", "6 6"},
		{"10 jobs", jobs(repeat(10, jobOf(2, 1, 1, 0))), "span 4,list 4", "no 6"},
		{"12 jobs", jobs(repeat(12, edgeJob())), "heads,late,list 8", "112000 0 2000"},
	} {
		var outputs []string
		for _, line := range strings.Split(c.lines, ",") {
			after, output, ok := impl.DeskCommand(c.d, line)
			wantBool(t, line+" for "+c.what, ok, true)
			wantBool(t, line+" for "+c.what+" changes the desk", deskText(after) != deskText(c.d), false)
			outputs = append(outputs, output)
		}
		wantText(t, c.lines+" for "+c.what, strings.Join(outputs, " "), c.want)
	}
}

// TestLinesThatTell has desks whose answers differ from those of others, so that
// none can be taken for another one.
func TestLinesThatTell(t *testing.T) {
	d := impl.Desk{
		Rows:  impl.Rows{Vars: 2, Numbers: []float32{2, 1, 1, 3, 0, 4}, Bounds: []float32{8, 9, 100}, Gains: []float32{3, 4}},
		Sizes: ints(4, 3, 3, 2, 2, 2), Ways: kite(),
		Jobs: []impl.Job{jobOf(2, 3, 5, 0), jobOf(3, 8, 9, 1), jobOf(4, 9, 1, 20), jobOf(6, 3, 9, 2)},
	}
	for _, c := range []struct{ line, want string }{
		{"rows", "2;40000000,3f800000,3f800000,40400000,00000000,40800000;41000000,41100000,42c80000;40400000,40800000"},
		{"sizes", "4,3,3,2,2,2"}, {"jobs", "2,3,5,0,3,8,9,1,4,9,1,20,6,3,9,2"}, {"ways", "0,1,1,5,1,0,1,1,1,1,0,5,5,1,5,0"},
		{"solve", "40400000,40000000"}, {"prices", "3f800000,3f800000,00000000"}, {"gain", "41880000"},
		{"fill 8", "6"}, {"fill 1", "0"}, {"fill 0", "1"}, {"fill 16", "1"}, {"bins 8", "3"}, {"least 8", "2"}, {"halves", "0"},
		{"tour", "0,1,3,2"}, {"long", "8"}, {"bound", "4"}, {"raise 0", "4"}, {"raise 1", "6"}, {"raise 2", "8"},
		{"due", "0,3,1,2"}, {"smith", "1,0,3,2"}, {"ontime", "0,1,2,3"}, {"late", "78"}, {"heads", "24"},
		{"list 1", "15"}, {"span 1", "15"}, {"list 2", "9"}, {"span 2", "8"}, {"list 3", "8"}, {"span 3", "6"},
	} {
		wantText(t, c.line, lineText(d, c.line), c.want)
	}
}

// TestSolvedRowsAreNear is about rows with numbers as near to 0 as solved rows
// pass over, 2^-20, and with the next ones beyond.
func TestSolvedRowsAreNear(t *testing.T) {
	near, beyond := num(0x35800000), num(0x35800001)
	for _, c := range []struct {
		what                string
		row, gain           float32
		plan, worth, prices string
	}{
		{"a near gain", 1, near, "00000000", "00000000", "00000000"},
		{"a gain beyond", 1, beyond, "3f800000", "35800001", "35800001"},
		{"a near number in the row", near, 1, "no", "no", "no"},
		{"a number beyond in the row", beyond, 1, "497ffffe", "497ffffe", "497ffffe"},
	} {
		d := newDeskBut(func(d *impl.Desk) { d.Rows = oneRow(1, []float32{c.row}, []float32{c.gain}) })
		got := []string{lineText(d, "solve"), lineText(d, "gain"), lineText(d, "prices")}
		wantText(t, c.what, fmt.Sprint(got), fmt.Sprint([]string{c.plan, c.worth, c.prices}))
	}
}

func TestDeskCommandFails(t *testing.T) {
	for _, d := range wrongDesks() {
		for _, line := range []string{"", "gain", "sizes 4,3,3", "rows " + newRowsText, "jobs " + newJobsText, "ways " + newWaysText, "drop 0", "x"} {
			wantText(t, fmt.Sprintf("%q at %.300s", line, deskText(d)), lineText(d, line), failed)
		}
	}
}
