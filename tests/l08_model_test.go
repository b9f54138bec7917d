package tests

import (
	"fmt"
	"math"
	"regexp"
	"slices"
	"strconv"
	"strings"
	"testing"

	"loop.example/g01346/impl"
)

// This file holds a model of chapter 8 that is written apart from the program,
// straight from the document's text. It asks the functions of other chapters,
// which have models of their own, what the desk must output.

// modelHexes and modelIntegers are texts of lists as chapter 1 tells them.
func modelHexes(list []float32) string {
	if len(list) == 0 {
		return "none"
	}
	return strings.ReplaceAll(hexList(list), " ", ",")
}

func modelIntegers(list []int64) string {
	if len(list) == 0 {
		return "none"
	}
	return strings.ReplaceAll(strings.Trim(fmt.Sprint(list), "[]"), " ", ",")
}

func modelRowsText(r impl.Rows) string {
	return fmt.Sprintf("%d;%s;%s;%s", r.Vars, modelHexes(r.Numbers), modelHexes(r.Bounds), modelHexes(r.Gains))
}

func modelJobsText(jobs []impl.Job) string {
	var texts []string
	for _, j := range jobs {
		texts = append(texts, fmt.Sprintf("%d,%d,%d,%d", j.Long, j.Due, j.Weight, j.Ready))
	}
	if len(texts) == 0 {
		return "none"
	}
	return strings.Join(texts, ",")
}

var (
	integerForm = regexp.MustCompile(`^(0|-?[1-9][0-9]{0,15})$`)
	rowsForm    = regexp.MustCompile(`^([1-8]);([0-9a-f,]*);([0-9a-f,]*);([0-9a-f,]*)$`)
	hexForm     = regexp.MustCompile(`^[0-9a-f]{8}$`)
)

func modelReadInteger(s string) (int64, bool) {
	n, err := strconv.ParseInt(s, 10, 64)
	if err != nil || !integerForm.MatchString(s) || n > 1e15 || n < -1e15 {
		return 0, false
	}
	return n, true
}

func modelReadIntegers(s string) ([]int64, bool) {
	if s == "none" {
		return nil, true
	}
	var list []int64
	for _, text := range strings.Split(s, ",") {
		n, ok := modelReadInteger(text)
		if !ok {
			return nil, false
		}
		list = append(list, n)
	}
	if len(list) > 64 {
		return nil, false
	}
	return list, true
}

// modelFinite reads a list of finite numbers.
func modelFinite(s string) ([]float32, bool) {
	var list []float32
	for _, text := range strings.Split(s, ",") {
		bits, err := strconv.ParseUint(text, 16, 32)
		if err != nil || !hexForm.MatchString(text) || bits&0x7f800000 == 0x7f800000 {
			return nil, false
		}
		list = append(list, num(uint32(bits)))
	}
	return list, true
}

func modelReadRows(s string) (impl.Rows, bool) {
	parts := rowsForm.FindStringSubmatch(s)
	if parts == nil {
		return impl.Rows{}, false
	}
	vars := int(parts[1][0] - '0')
	numbers, one := modelFinite(parts[2])
	bounds, two := modelFinite(parts[3])
	gains, three := modelFinite(parts[4])
	if !one || !two || !three || len(bounds) > 8 || len(gains) != vars || len(numbers) != vars*len(bounds) || slices.Min(bounds) < 0 {
		return impl.Rows{}, false
	}
	return impl.Rows{Vars: int64(vars), Numbers: numbers, Bounds: bounds, Gains: gains}, true
}

func modelReadJobs(s string) ([]impl.Job, bool) {
	list, ok := modelReadIntegers(s)
	if !ok || len(list) == 0 || len(list)%4 != 0 || len(list) > 48 {
		return nil, false
	}
	var jobs []impl.Job
	for i := 0; i < len(list); i += 4 {
		j := jobOf(list[i], list[i+1], list[i+2], list[i+3])
		if j.Long < 1 || j.Long > 1000 || j.Due < 0 || j.Due > 100000 || j.Weight < 0 || j.Weight > 1000 || j.Ready < 0 || j.Ready > 100000 {
			return nil, false
		}
		jobs = append(jobs, j)
	}
	return jobs, true
}

// modelOfOne returns the output of a line of one word, and whether there is one.
func modelOfOne(d impl.Desk, name string) (string, bool) {
	plan, prices, solved := impl.SolveRows(d.Rows, 64, float32(math.Pow(2, -20)))
	switch name {
	case "rows":
		return modelRowsText(d.Rows), true
	case "sizes":
		return modelIntegers(d.Sizes), true
	case "jobs":
		return modelJobsText(d.Jobs), true
	case "ways":
		return modelIntegers(d.Ways), true
	case "solve":
		return modelHexes(plan), solved
	case "prices":
		return modelHexes(prices), solved
	case "gain":
		gain, ok := impl.GainOf(d.Rows, plan)
		return hex(gain), solved && ok
	case "halves":
		_, least, ok := impl.BestHalves(d.Sizes)
		return fmt.Sprint(least), ok
	case "tour":
		tour, _, ok := impl.BestTour(d.Ways)
		return modelIntegers(tour), ok
	case "long":
		_, long, ok := impl.BestTour(d.Ways)
		return fmt.Sprint(long), ok
	case "bound":
		bound, ok := impl.TourBound(d.Ways)
		return fmt.Sprint(bound), ok
	case "due":
		order, ok := impl.DueOrder(d.Jobs)
		return modelIntegers(order), ok
	case "smith":
		order, ok := impl.SmithOrder(d.Jobs)
		return modelIntegers(order), ok
	case "ontime":
		order, _, ok := impl.OnTimeOrder(d.Jobs)
		return modelIntegers(order), ok
	case "late":
		_, least, ok := impl.LeastLate(d.Jobs)
		return fmt.Sprint(least), ok
	case "heads":
		heads, ok := impl.HeadsBound(d.Jobs)
		return fmt.Sprint(heads), ok
	}
	return "", false
}

// modelOfNumber returns the output of a line with a number.
func modelOfNumber(d impl.Desk, name string, n int64) (string, bool) {
	switch name {
	case "fill":
		ways, ok := impl.WaysToFill(d.Sizes, n)
		return fmt.Sprint(ways), ok
	case "bins":
		_, bins, ok := impl.FirstBins(d.Sizes, n)
		return fmt.Sprint(bins), ok
	case "least":
		bins, ok := impl.LeastBins(d.Sizes, n)
		return fmt.Sprint(bins), ok
	case "raise":
		bound, _, ok := impl.RaisedBound(d.Ways, n)
		return fmt.Sprint(bound), ok
	case "list":
		_, end, ok := impl.ListPlan(d.Jobs, n)
		return fmt.Sprint(end), ok
	case "span":
		span, ok := impl.LeastSpan(d.Jobs, n)
		return fmt.Sprint(span), ok
	}
	return "", false
}

// modelOfChange returns the desk after a line that changes it.
func modelOfChange(d impl.Desk, name, text string) (impl.Desk, bool) {
	ok := false
	switch name {
	case "rows":
		d.Rows, ok = modelReadRows(text)
	case "sizes":
		d.Sizes, ok = modelReadIntegers(text)
	case "jobs":
		d.Jobs, ok = modelReadJobs(text)
	case "ways":
		d.Ways, ok = modelReadIntegers(text)
	case "scale":
		d.Rows, ok = impl.ScaleRows(d.Rows)
	case "drop":
		n, isNumber := modelReadInteger(text)
		d.Rows, ok = impl.DropRow(d.Rows, n)
		ok = ok && isNumber
	}
	return d, ok && impl.AreSizes(d.Sizes) && impl.AreCities(d.Ways) && len(d.Ways) < 81
}

// The names of forms, by what comes behind them, and the change of the desk.
var (
	namesOfChanges = []string{"rows", "sizes", "jobs", "ways", "drop"}
	namesOfNumbers = []string{"fill", "bins", "least", "raise", "list", "span"}
	namesOfOne     = []string{"rows", "sizes", "jobs", "ways", "solve", "prices", "gain", "halves", "tour", "long", "bound", "due", "smith", "ontime", "late", "heads"}
)

// modelLine returns the desk after a line, and the output.
func modelLine(d impl.Desk, line string) (impl.Desk, string) {
	words := strings.Split(line, " ")
	isChange := len(words) == 2 && slices.Contains(namesOfChanges, words[0]) || line == "scale"
	output, ok := "what", true
	switch {
	case isChange:
		after, ok := modelOfChange(d, words[0], words[len(words)-1])
		if !ok {
			return d, "no"
		}
		return after, "ok"
	case len(words) == 2 && slices.Contains(namesOfNumbers, words[0]):
		n, isNumber := modelReadInteger(words[1])
		output, ok = modelOfNumber(d, words[0], n)
		ok = ok && isNumber
	case len(words) == 1 && slices.Contains(namesOfOne, line):
		output, ok = modelOfOne(d, line)
	}
	if !ok {
		return d, "no"
	}
	return d, output
}

// deskText tells all of a desk, to the last bit.
func deskText(d impl.Desk) string {
	return fmt.Sprint(d.Rows.Vars, " ", rowsText(d.Rows), " ", d.Sizes, d.Jobs, d.Ways)
}

func copyDesk(d impl.Desk) impl.Desk {
	return impl.Desk{Rows: copyRows(d.Rows), Sizes: slices.Clone(d.Sizes), Jobs: slices.Clone(d.Jobs), Ways: slices.Clone(d.Ways)}
}

// manyDesks returns valid desks of all kinds, with few and with many of each.
func manyDesks(count int) []impl.Desk {
	var rows []impl.Rows
	for _, r := range manyRows(3 * count) {
		if impl.ValidRows(r) {
			rows = append(rows, r)
		}
	}
	var ways [][]int64
	for _, list := range manyWays(3 * count) {
		if len(list) <= 64 {
			ways = append(ways, list)
		}
	}
	sizes, jobs := manyThings(2*count), manyJobs(count, 12)
	var list []impl.Desk
	for i := range count {
		list = append(list, impl.Desk{Rows: rows[i], Sizes: sizes[i].sizes, Jobs: jobs[i], Ways: ways[i]})
	}
	return list
}

// manyLines returns lines for desks: of all forms, with words that are as they
// must be, and such that are not, and lines that are nearly of a form.
func manyLines(seed, count int) []string {
	state := sequence(seed)
	desks := manyDesks(40)
	numbers := []string{"0", "1", "2", "3", "4", "5", "8", "9", "10", "50", "51", "1000", "1001", "-1", "01", "+1", "x", "", "none", "1000000000000001"}
	others := slices.Concat(wrongRowTexts(), wrongJobTexts(), edgeTexts(), numbers)
	texts := func() []string {
		d := desks[state.below(len(desks))]
		return []string{modelRowsText(d.Rows), modelIntegers(d.Sizes), modelJobsText(d.Jobs), modelIntegers(d.Ways), numbers[state.below(2)]}
	}
	var list []string
	for i := range count {
		change, number, one := state.below(len(namesOfChanges)), namesOfNumbers[state.below(len(namesOfNumbers))], append(namesOfOne, "scale")[state.below(len(namesOfOne)+1)]
		line := []string{
			one, number + " " + numbers[state.below(len(numbers))], namesOfChanges[change] + " " + texts()[change], number + " " + strconv.Itoa(state.below(9)),
			namesOfChanges[change] + " " + texts()[state.below(5)], namesOfChanges[change] + " " + others[state.below(len(others))], number + " " + others[state.below(len(others))],
		}[i%7]
		if at := state.below(len(line) + 1); state.below(9) == 0 {
			line = line[:at] + []string{" ", "  ", "x", "\t", "\n", "\x00", "0"}[state.below(7)] + line[at:]
		}
		list = append(list, line)
	}
	return list
}

func TestLinesAreThoseOfTheModel(t *testing.T) {
	lines := manyLines(81, 6000)
	counts := map[string]int{}
	for i, d := range manyDesks(300) {
		for _, line := range lines[20*i : 20*i+20] {
			want, output := modelLine(copyDesk(d), line)
			after, got, ok := impl.DeskCommand(d, line)
			if got != output || !ok || deskText(after) != deskText(want) {
				t.Errorf("%.200q at %.300s: got %q, %v, want %q, and then %.300s, want %.300s", line, deskText(d), got, ok, output, deskText(after), deskText(want))
			}
			counts[output]++
			d = after
		}
	}
	wantBool(t, fmt.Sprint("there are lines of all kinds: ", counts["ok"], counts["no"], counts["what"]), min(counts["ok"], counts["no"], counts["what"]) > 100, true)
}

// TestEachLineIsThatOfTheModel carries out lines of all forms at each desk, and
// lines that are cut, or have one byte more.
func TestEachLineIsThatOfTheModel(t *testing.T) {
	check := func(d impl.Desk, line string) {
		want, output := modelLine(copyDesk(d), line)
		after, got, ok := impl.DeskCommand(d, line)
		if got != output || !ok || deskText(after) != deskText(want) {
			t.Errorf("%.200q at %.300s: got %q, %v, want %q, and then %.300s, want %.300s", line, deskText(d), got, ok, output, deskText(after), deskText(want))
		}
	}
	lines := append(slices.Clone(namesOfOne), "scale")
	for _, name := range append(namesOfNumbers, "drop") {
		for _, n := range []int{0, 1, 2, 7, 8, 9, 50, 51, 300, 1000, 1001, -1} {
			lines = append(lines, fmt.Sprint(name, " ", n))
		}
	}
	for _, d := range manyDesks(60) {
		for _, line := range lines {
			check(d, line)
		}
	}
	for _, line := range append(lines, "rows 1;3f800000;40000000;40400000", "sizes 1,2", "jobs 1,2,3,4", "ways 0") {
		for i := range len(line) + 1 {
			check(impl.NewDesk(), line[:i])
			for _, more := range []string{" ", "\n", "x", "0", ","} {
				check(impl.NewDesk(), line[:i]+more+line[i:])
			}
		}
	}
}

func TestScriptsAreThoseOfTheModel(t *testing.T) {
	for i, d := range manyDesks(60) {
		var script, want strings.Builder
		after, bad, count := copyDesk(d), 0, 0
		for _, line := range manyLines(100+i, i) {
			for _, part := range strings.Split(line, "\n") { // a line with a newline is two
				if script.Len()+len(part) >= 16000 {
					continue
				}
				var output string
				after, output = modelLine(after, part)
				script.WriteString(part + "\n")
				want.WriteString(output + "\n")
				count++
				if output == "no" || output == "what" {
					bad++
				}
			}
		}
		last, outputs, ok := impl.RunDesk(d, script.String())
		wantText(t, fmt.Sprint("the outputs of the script ", i), fmt.Sprint(outputs, ok), fmt.Sprint(want.String(), true))
		wantText(t, fmt.Sprint("the desk behind the script ", i), deskText(last), deskText(after))
		if len(outputs) <= 16000 {
			wantText(t, fmt.Sprint("CountOutputs of the script ", i), fmt.Sprint(impl.CountOutputs(outputs)), fmt.Sprint(bad, count-bad, true))
		}
	}
}
