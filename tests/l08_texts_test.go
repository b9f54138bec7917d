package tests

import (
	"fmt"
	"strings"
	"testing"

	"loop.example/g01346/impl"
)

func TestLimitsOfChapter8(t *testing.T) {
	wantText(t, "limits", fmt.Sprint(impl.MaxScript), "16000")
}

// toldRows and toldJobs tell what RowsText and JobsText return, readRows and
// readJobs what the readers do.
func toldRows(r impl.Rows) string {
	text, ok := impl.RowsText(r)
	return fmt.Sprintf("%q %v", text, ok)
}

func toldJobs(jobs []impl.Job) string {
	text, ok := impl.JobsText(jobs)
	return fmt.Sprintf("%q %v", text, ok)
}

func readRows(s string) string {
	r, ok := impl.ReadRows(s)
	return fmt.Sprint(r.Vars, "; ", rowsText(r), " ", ok)
}

func readJobs(s string) string { return fmt.Sprint(impl.ReadJobs(s)) }

// noRows and noJobs are what the readers tell where they fail.
const (
	noRows = "0; 00000000; ; ;  false"
	noJobs = "[] false"
)

func TestRowsText(t *testing.T) {
	most, least, minus := num(bitsMost), num(bitsLeast), num(bitsMinusZero)
	for _, c := range []struct {
		what string
		r    impl.Rows
		want string
	}{
		{"the stage's rows", oneRow(2, []float32{1}, []float32{3}), "1;3f800000;40000000;40400000"},
		{"the rows of a new desk", exampleRows(), "2;3f800000,3f800000,3f800000,00000000;40800000,40400000;40000000,3f800000"},
		{"signs of zeros", oneRow(minus, []float32{minus, 0}, []float32{0, minus}), "2;80000000,00000000;80000000;00000000,80000000"},
		{"least and greatest numbers", oneRow(least, []float32{most, -most}, []float32{-least, most}), "2;7f7fffff,ff7fffff;00000001;80000001,7f7fffff"},
		{"one number in three rows", impl.Rows{Vars: 1, Numbers: []float32{1, 2, 3}, Bounds: []float32{4, 5, 6}, Gains: []float32{7}}, "1;3f800000,40000000,40400000;40800000,40a00000,40c00000;40e00000"},
		{"rows at both limits", fullRows(), "8;" + strings.Repeat("3f800000,", 63) + "3f800000;" + strings.Repeat("3f800000,", 7) + "3f800000;" + strings.Repeat("3f800000,", 7) + "3f800000"},
	} {
		wantText(t, "RowsText of "+c.what, toldRows(c.r), fmt.Sprintf("%q true", c.want))
		wantText(t, "ReadRows of "+c.what, readRows(c.want), fmt.Sprint(c.r.Vars, "; ", rowsText(c.r), " true"))
	}
	for _, r := range invalidRows() {
		wantText(t, "RowsText of "+rowsText(r), toldRows(r), `"" false`)
	}
}

// wrongRowTexts are texts of no rows: in each of them, one thing is wrong.
func wrongRowTexts() []string {
	list := []string{
		"", ";", ";;", ";;;", ";;;;", "none", "1", "1;", "1;3f800000", "1;3f800000;40000000", "1;3f800000;40000000;", ";3f800000;40000000;40400000", "3f800000;40000000;40400000",
		"1;3f800000;40000000;40400000;", ";1;3f800000;40000000;40400000", "1;3f800000;40000000;40400000;40400000", "1;3f800000;;40000000;40400000", "1;;40000000;40400000", "1;3f800000;;40400000",
		"1;3f800000;40000000;40400000\n", " 1;3f800000;40000000;40400000", "1 ;3f800000;40000000;40400000", "1; 3f800000;40000000;40400000", "1;3f800000;40000000;40400000 ", "1,3f800000,40000000,40400000", "1:3f800000:40000000:40400000",
		"none;3f800000;40000000;40400000", "1;none;40000000;40400000", "1;3f800000;none;40400000", "1;3f800000;40000000;none", "1;none;none;none", "0;none;none;none", "0;none;40000000;none", "1;none;none;40400000",
		"2;3f800000;40000000;40400000", "0;3f800000;40000000;40400000", "-1;3f800000;40000000;40400000", "9;3f800000;40000000;40400000", "1;3f800000,3f800000;40000000;40400000", "1;3f800000;40000000,40000000;40400000", "1;3f800000;40000000;40400000,40400000",
		"1;3f800000,;40000000;40400000", "1;3f800000;,40000000;40400000", "1;3f80000;40000000;40400000", "1;3f8000000;40000000;40400000", "1;3F800000;40000000;40400000", "1;3f800000;40000000;4040000O", "1;1;2;3", "1;0x3f800000;40000000;40400000",
		"1;3f800000;c0000000;40400000", "1;3f800000;80000001;40400000", "4294967297;3f800000;40000000;40400000", "9223372036854775807;3f800000;40000000;40400000", "1000000000000001;3f800000;40000000;40400000",
	}
	for _, vars := range []string{"01", "+1", "1.0", "1.", "0x1", "1e0", "١", "1\x00", "one", "00000001"} {
		list = append(list, vars+";3f800000;40000000;40400000")
	}
	for _, bits := range []string{"7fc00000", "7f800000", "ff800000", "7f800001", "ffc00000"} {
		list = append(list, "1;"+bits+";40000000;40400000", "1;3f800000;"+bits+";40400000", "1;3f800000;40000000;"+bits)
	}
	nine, eight := strings.Repeat("3f800000,", 8)+"3f800000", strings.Repeat("3f800000,", 7)+"3f800000"
	return append(list, "9;"+nine+";3f800000;"+nine, "1;"+nine+";"+nine+";3f800000", "8;"+eight+";3f800000;"+nine, strings.Repeat(";", 100000), "1;"+strings.Repeat("3f800000,", 100000)+";40000000;40400000")
}

func TestReadRowsFails(t *testing.T) {
	for _, s := range append(wrongRowTexts(), edgeTexts()...) {
		wantText(t, fmt.Sprintf("ReadRows %.99q", s), readRows(s), noRows)
	}
	for _, r := range invalidRows() {
		text := modelRowsText(r)
		wantText(t, "ReadRows "+text, readRows(text), noRows)
	}
}

func TestJobsText(t *testing.T) {
	for _, c := range []struct {
		what string
		jobs []impl.Job
		want string
	}{
		{"the jobs of a new desk", plainJobs(2, 2, 1, 1, 3, 1), "2,2,1,0,1,3,1,0"},
		{"a least job", longJobs(1), "1,0,0,0"},
		{"a greatest job", []impl.Job{edgeJob()}, "1000,100000,1000,100000"},
		{"four different numbers", []impl.Job{jobOf(1, 2, 3, 4), jobOf(8, 7, 6, 5)}, "1,2,3,4,8,7,6,5"},
		{"as many as there can be", repeat(12, edgeJob()), strings.Repeat("1000,100000,1000,100000,", 11) + "1000,100000,1000,100000"},
	} {
		wantText(t, "JobsText of "+c.what, toldJobs(c.jobs), fmt.Sprintf("%q true", c.want))
		wantText(t, "ReadJobs of "+c.what, readJobs(c.want), fmt.Sprint(c.jobs, " true"))
	}
	for _, jobs := range wrongJobs() {
		wantText(t, fmt.Sprintf("JobsText of %.99s", fmt.Sprint(jobs)), toldJobs(jobs), `"" false`)
	}
}

// wrongJobTexts are texts of no jobs: in each of them, one thing is wrong.
func wrongJobTexts() []string {
	list := []string{
		"", "none", ",", ",,,", "1", "1,2", "1,2,3", "1,2,3,4,5", "1,2,3,4,5,6", "1,2,3,4,5,6,7", "1,2,3,4,", ",1,2,3,4", "1,2,,3,4", "1,2,3,", "1;2;3;4", "1,2,3;4", "1, 2,3,4", " 1,2,3,4", "1,2,3,4 ", "1,2,3,4\n", "1 2 3 4",
		"01,2,3,4", "1,+2,3,4", "1,2,3.0,4", "1,2,3,0x4", "1,2,3,-0", "1,2,none,4", "1,2,3,٤", "none,none,none,none", "0,2,3,4", "-1,2,3,4", "1001,2,3,4", "1,-1,3,4", "1,100001,3,4", "1,2,-1,4", "1,2,1001,4", "1,2,3,-1", "1,2,3,100001",
		"4294967297,2,3,4", "1,2,3,4294967296", "1,2,3,1000000000000001", "1,2,3,18446744073709551617",
	}
	return append(list, strings.Repeat("1,2,3,4,", 12)+"1,2,3,4", strings.Repeat("1,2,3,4,", 15)+"1,2,3,4", strings.Repeat("1,2,3,4,", 16)+"1,2,3,4", strings.Repeat("1,2,3,4,", 11)+"1,2,3", strings.Repeat("1,2,3,4,", 11)+"0,2,3,4", strings.Repeat(",", 100000))
}

func TestReadJobsFails(t *testing.T) {
	for _, s := range append(wrongJobTexts(), edgeTexts()...) {
		wantText(t, fmt.Sprintf("ReadJobs %.99q", s), readJobs(s), noJobs)
	}
	for _, jobs := range wrongJobs() {
		if text := modelJobsText(jobs); len(jobs) > 0 {
			wantText(t, fmt.Sprintf("ReadJobs %.99q", text), readJobs(text), noJobs)
		}
	}
}

// TestTextsComeBack wants rows and jobs back from their texts, and both texts
// those of the model.
func TestTextsComeBack(t *testing.T) {
	for _, r := range manyRows(900) {
		if !impl.ValidRows(r) {
			continue
		}
		text := modelRowsText(r)
		wantText(t, "RowsText of "+rowsText(r), toldRows(r), fmt.Sprintf("%q true", text))
		wantText(t, "ReadRows of "+text, readRows(text), fmt.Sprint(r.Vars, "; ", rowsText(r), " true"))
	}
	for _, jobs := range manyJobs(900, 12) {
		text := modelJobsText(jobs)
		wantText(t, fmt.Sprint("JobsText of ", jobs), toldJobs(jobs), fmt.Sprintf("%q true", text))
		wantText(t, "ReadJobs of "+text, readJobs(text), fmt.Sprint(jobs, " true"))
	}
}

// TestTextsThatAreCutOrChanged cuts texts at each byte, and changes, takes out
// and doubles each byte: what is read then is what the model reads.
func TestTextsThatAreCutOrChanged(t *testing.T) {
	for _, text := range []string{modelRowsText(exampleRows()), "1;3f800000,7f7fffff;40000000,00000000;c0400000", "2,2,1,0,1,3,1,0", "1000,100000,1000,100000"} {
		var others []string
		for i := range len(text) {
			others = append(others, text[:i], text[i:], text[:i]+text[i+1:], text[:i]+text[i:i+1]+text[i:])
			for by := 1; by < 256; by++ {
				others = append(others, text[:i]+string([]byte{text[i] ^ byte(by)})+text[i+1:])
			}
			for _, c := range " ;,0-\n" {
				others = append(others, text[:i]+string(c)+text[i:])
			}
		}
		for _, s := range append(others, text) {
			r, ok := modelReadRows(s)
			wantText(t, fmt.Sprintf("ReadRows %q", s), readRows(s), fmt.Sprint(r.Vars, "; ", rowsText(r), " ", ok))
			wantText(t, fmt.Sprintf("ReadJobs %q", s), readJobs(s), fmt.Sprint(modelReadJobs(s)))
		}
	}
}
