package tests

import (
	"fmt"
	"math"
	"testing"

	"loop.example/g01346/impl"
)

func resolveText(letters int64, a, b []int64, letter int64) string {
	clause, ok := impl.Resolve(letters, a, b, letter)
	return fmt.Sprint(clause, " ", ok)
}

func TestResolve(t *testing.T) {
	for _, c := range []struct {
		what    string
		letters int64
		a, b    []int64
		letter  int64
		want    string
	}{
		{"the stage's example", 2, ints(1, 2), ints(-1, 2), 1, "[2] true"},
		{"two letters of both signs", 2, ints(1, 2), ints(-1, -2), 1, "[] false"},
		{"two letters of both signs, the other one", 2, ints(1, 2), ints(-1, -2), 2, "[] false"},
		{"nothing is left", 1, ints(1), ints(-1), 1, "[] true"},
		{"the opposite first", 2, ints(-1, 2), ints(1), 1, "[2] true"},
		{"in ascending order of letters", 5, ints(3, 4), ints(-1, -3, 5), 3, "[-1 4 5] true"},
		{"in ascending order of letters, not of literals", 5, ints(1, -3), ints(-2, 3, -5), 3, "[1 -2 -5] true"},
		{"each literal once", 4, ints(-1, 2, 4), ints(-1, -2, 4), 2, "[-1 4] true"},
		{"a third letter of both signs", 3, ints(1, 2, -3), ints(-1, 2, 3), 1, "[] false"},
		{"all letters", 10, ints(1, 2, 3, 4, 5, 6, 7, 8, 9, 10), ints(-1, 2, 3, 4, 5, 6, 7, 8, 9, 10), 1, "[2 3 4 5 6 7 8 9 10] true"},
		{"the last letter", 10, ints(-9, -10), ints(-8, 10), 10, "[-8 -9] true"},
		{"both have the letter", 2, ints(1), ints(1, 2), 1, "[] false"},
		{"both have the opposite", 2, ints(-1), ints(-1, 2), 1, "[] false"},
		{"only one has it", 2, ints(1), ints(2), 1, "[] false"},
		{"only one has the opposite", 2, ints(2), ints(-1), 1, "[] false"},
		{"none has it", 3, ints(1), ints(-1), 2, "[] false"},
		{"clauses without literals", 2, nil, nil, 1, "[] false"},
		{"one clause without literals", 2, ints(1), nil, 1, "[] false"},
		{"an opposite as the letter", 2, ints(1, 2), ints(-1, 2), -1, "[] false"},
		{"an opposite as the letter, turned around", 2, ints(-1, 2), ints(1, 2), -1, "[] false"},
		{"no letter", 2, ints(1), ints(-1), 0, "[] false"},
		{"a letter beyond the last one", 1, ints(2), ints(-2), 2, "[] false"},
		{"numbers far off", 2, ints(1), ints(-1), math.MinInt64, "[] false"},
		{"great numbers", 2, ints(1), ints(-1), math.MaxInt64, "[] false"},
		{"a wrong first clause", 3, ints(2, 1), ints(-1), 1, "[] false"},
		{"a wrong second clause", 3, ints(1), ints(-1, -1), 1, "[] false"},
		{"signs that conflict in one clause", 3, ints(1, -1), ints(-1, 1), 1, "[] false"},
		{"a literal beyond the last one", 3, ints(1, 4), ints(-1), 1, "[] false"},
		{"no letters", 0, ints(1), ints(-1), 1, "[] false"},
		{"one beyond most letters", 11, ints(1), ints(-1), 1, "[] false"},
	} {
		wantText(t, "Resolve, "+c.what, resolveText(c.letters, c.a, c.b, c.letter), c.want)
	}
	for _, c := range wrongClauses() {
		what := fmt.Sprintf("Resolve of %.99s", fmt.Sprint(c))
		wantText(t, what, resolveText(c.letters, c.clause, ints(-1), 1), "[] false")
		wantText(t, what+" as the second one", resolveText(c.letters, ints(1), c.clause, 1), "[] false")
	}
}

// formText tells a form, where a function has not failed.
func formText(f impl.Form, ok bool) string {
	return fmt.Sprint(f.Letters, " ", f.Clauses, " ", ok)
}

const noForm = "0 [] false"

func TestLeaveLetter(t *testing.T) {
	for _, c := range []struct {
		what   string
		form   impl.Form
		letter int64
		want   string
	}{
		{"the stage's example", never(), 1, "2 [[-2] [2]] true"},
		{"the other letter", never(), 2, "2 [[1] [-1]] true"},
		{"a letter that no clause has", formOf(3, ints(1), ints(-2)), 3, "3 [[1] [-2]] true"},
		{"a letter of one sign alone", formOf(3, ints(1, 2), ints(3), ints(1)), 1, "3 [[3]] true"},
		{"the opposite alone", formOf(3, ints(-1, 2), ints(3), ints(-1)), 1, "3 [[3]] true"},
		{"no clauses", formOf(2), 1, "2 [] true"},
		{"signs that conflict", formOf(1, ints(1), ints(-1)), 1, "1 [[]] true"},
		{"a clause without literals", formOf(1, nil, ints(1)), 1, "1 [[]] true"},
		{"those that have it first, in order", formOf(5, ints(-1, 4), ints(1, 2), ints(-1, 5), ints(1, 3)), 1, "5 [[2 4] [2 5] [3 4] [3 5]] true"},
		{"those that have neither come first", formOf(5, ints(1, 2), ints(4), ints(-1, 3), ints(-5)), 1, "5 [[4] [-5] [2 3]] true"},
		{"letters of both signs are left out", pairs(), 1, "2 [[2] [-2]] true"},
		{"equal clauses stay", formOf(2, ints(2), ints(2), ints(1, 2), ints(-1, 2), ints(-1, 2)), 1, "2 [[2] [2] [2] [2]] true"},
		{"the last letter", formOf(10, ints(-1, 10), ints(-2, -10)), 10, "10 [[-1 -2]] true"},
		{"no letter", either(), 0, noForm},
		{"an opposite", either(), -1, noForm},
		{"a letter beyond the last one", either(), 3, noForm},
		{"a number far off", either(), math.MinInt64, noForm},
		{"a great number", either(), 1<<32 + 1, noForm},
	} {
		wantText(t, "LeaveLetter, "+c.what, formText(impl.LeaveLetter(c.form, c.letter)), c.want)
	}
	for _, f := range wrongForms() {
		wantText(t, fmt.Sprintf("LeaveLetter of %.99s", fmt.Sprint(f)), formText(impl.LeaveLetter(f, 1)), noForm)
	}
}

// TestLeaveLetterTellsAllClauses wants all of them, also where they are more
// than a valid form has: the document does not say that it fails then.
func TestLeaveLetterTellsAllClauses(t *testing.T) {
	f := formOf(3, append(repeat(24, ints(1, 2)), repeat(24, ints(-1, 3))...)...)
	wantText(t, "LeaveLetter of most clauses", formText(impl.LeaveLetter(f, 1)), formText(formOf(3, repeat(576, ints(2, 3))...), true))
	f = formOf(3, append(repeat(8, ints(1, 2)), repeat(6, ints(-1, 3))...)...)
	wantText(t, "LeaveLetter to most clauses", formText(impl.LeaveLetter(f, 1)), formText(formOf(3, repeat(48, ints(2, 3))...), true))
}

func TestThinForm(t *testing.T) {
	for _, c := range []struct {
		what string
		form impl.Form
		want string
	}{
		{"the stage's example", formOf(2, ints(1, 2), ints(2), ints(2)), "2 [[2]] true"},
		{"no clauses", formOf(2), "2 [] true"},
		{"one clause", either(), "2 [[1 2]] true"},
		{"a part that comes later", formOf(3, ints(1, 2, 3), ints(1, 3)), "3 [[1 3]] true"},
		{"a part that comes before", formOf(3, ints(1, 3), ints(1, 2, 3)), "3 [[1 3]] true"},
		{"the opposite is no part", formOf(3, ints(-1), ints(1, 2)), "3 [[-1] [1 2]] true"},
		{"the same letters of other signs", pairs(), "2 [[1 2] [1 -2] [-1 2] [-1 -2]] true"},
		{"two that share a literal", formOf(3, ints(1, 2), ints(2, 3)), "3 [[1 2] [2 3]] true"},
		{"parts of parts", formOf(4, ints(1, 2, 3, 4), ints(1, 2, 3), ints(1, 2), ints(1)), "4 [[1]] true"},
		{"equal clauses, the later one", formOf(3, ints(1, 2), ints(3), ints(1, 2)), "3 [[1 2] [3]] true"},
		{"equal clauses, many", formOf(1, repeat(48, ints(-1))...), "1 [[-1]] true"},
		{"equal clauses that have a part", formOf(2, ints(1, 2), ints(1, 2), ints(1)), "2 [[1]] true"},
		{"a clause without literals", formOf(2, ints(1), nil, ints(-2)), "2 [[]] true"},
		{"clauses without literals", formOf(2, nil, nil), "2 [[]] true"},
		{"in order", formOf(4, ints(4), ints(-3), ints(2), ints(-1)), "4 [[4] [-3] [2] [-1]] true"},
		{"most letters", formOf(10, ints(1, 2, 3, 4, 5, 6, 7, 8, 9, 10), ints(1, 2, 3, 4, 5, 6, 7, 8, 9)), "10 [[1 2 3 4 5 6 7 8 9]] true"},
		{"most letters, one of the other sign", formOf(10, ints(1, 2, 3, 4, 5, 6, 7, 8, 9, 10), ints(1, 2, 3, 4, 5, 6, 7, 8, 9, -10)), "10 [[1 2 3 4 5 6 7 8 9 10] [1 2 3 4 5 6 7 8 9 -10]] true"},
	} {
		wantText(t, "ThinForm, "+c.what, formText(impl.ThinForm(c.form)), c.want)
	}
	for _, f := range wrongForms() {
		wantText(t, fmt.Sprintf("ThinForm of %.99s", fmt.Sprint(f)), formText(impl.ThinForm(f)), noForm)
	}
}

func TestPureIn(t *testing.T) {
	for _, c := range []struct {
		what string
		form impl.Form
		want string
	}{
		{"the stage's example", never(), "[] true"},
		{"both letters", either(), "[1 2] true"},
		{"no clauses", formOf(3), "[] true"},
		{"clauses without literals", formOf(3, nil, nil), "[] true"},
		{"an opposite", formOf(3, ints(-2), ints(1, -2)), "[1 -2] true"},
		{"in ascending order of letters", formOf(4, ints(-4), ints(3), ints(-2), ints(1)), "[1 -2 3 -4] true"},
		{"both signs", formOf(3, ints(1, 2), ints(-1, 3)), "[2 3] true"},
		{"both signs, the opposite first", formOf(3, ints(-1, 2), ints(1, 3)), "[2 3] true"},
		{"equal clauses", formOf(2, ints(1, -2), ints(1, -2)), "[1 -2] true"},
		{"most letters", formOf(10, ints(-1, 2, 3, 4, 5, 6, 7, 8, 9, 10), ints(1, -10)), "[2 3 4 5 6 7 8 9] true"},
		{"the first and the last letter", formOf(10, ints(-1, -10)), "[-1 -10] true"},
	} {
		pure, ok := impl.PureIn(c.form)
		wantText(t, "PureIn, "+c.what, fmt.Sprint(pure, " ", ok), c.want)
	}
	for _, f := range wrongForms() {
		pure, ok := impl.PureIn(f)
		wantText(t, fmt.Sprintf("PureIn of %.99s", fmt.Sprint(f)), fmt.Sprint(pure, " ", ok), "[] false")
	}
}

func TestGiveForm(t *testing.T) {
	for _, c := range []struct {
		what  string
		form  impl.Form
		given []int64
		want  string
	}{
		{"the stage's example", never(), ints(1), "2 [[2] [-2]] true"},
		{"nothing", never(), nil, "2 [[1 2] [-1 2] [-2]] true"},
		{"an opposite", never(), ints(-1), "2 [[2] [-2]] true"},
		{"in any order", formOf(4, ints(1, 2, 3, 4), ints(-1, 4), ints(2, -3)), ints(3, 1), "4 [[4] [2]] true"},
		{"a clause that has one and an opposite", formOf(2, ints(1, -2)), ints(2, 1), "2 [] true"},
		{"nothing is left of a clause", formOf(2, ints(1, 2), ints(1)), ints(-1, -2), "2 [[] []] true"},
		{"a clause without literals stays", formOf(2, nil, ints(1)), ints(1), "2 [[]] true"},
		{"no clauses", formOf(2), ints(1, 2), "2 [] true"},
		{"a letter that no clause has", formOf(3, ints(1)), ints(-3, 2), "3 [[1]] true"},
		{"equal clauses stay", formOf(2, ints(-1, 2), ints(-1, 2)), ints(1), "2 [[2] [2]] true"},
		{"units are not made known", formOf(3, ints(-1, 2), ints(-2, 3)), ints(1), "3 [[2] [-2 3]] true"},
		{"most letters", formOf(10, ints(1, 2, 3, 4, 5, 6, 7, 8, 9, 10)), ints(-10, -1), "10 [[2 3 4 5 6 7 8 9]] true"},
		{"all letters", formOf(10, ints(1, 2, 3, 4, 5, 6, 7, 8, 9, 10)), ints(-1, -2, -3, -4, -5, -6, -7, -8, -9, -10), "10 [[]] true"},
	} {
		wantText(t, "GiveForm, "+c.what, formText(impl.GiveForm(c.form, c.given)), c.want)
	}
	for _, given := range wrongGiven() {
		wantText(t, fmt.Sprintf("GiveForm with %.99s", fmt.Sprint(given)), formText(impl.GiveForm(formOf(3, ints(1)), given)), noForm)
	}
	for _, f := range wrongForms() {
		wantText(t, fmt.Sprintf("GiveForm of %.99s", fmt.Sprint(f)), formText(impl.GiveForm(f, nil)), noForm)
	}
}

func TestAtMostForm(t *testing.T) {
	for _, c := range []struct {
		letters, most int64
		want          string
	}{
		{3, 1, "3 [[-1 -2] [-1 -3] [-2 -3]] true"}, {3, 0, "3 [[-1] [-2] [-3]] true"}, {3, 2, "3 [[-1 -2 -3]] true"}, {3, 3, "3 [] true"},
		{1, 0, "1 [[-1]] true"}, {1, 1, "1 [] true"}, {10, 10, "10 [] true"}, {10, 9, "10 [[-1 -2 -3 -4 -5 -6 -7 -8 -9 -10]] true"},
		{4, 1, "4 [[-1 -2] [-1 -3] [-1 -4] [-2 -3] [-2 -4] [-3 -4]] true"}, {4, 2, "4 [[-1 -2 -3] [-1 -2 -4] [-1 -3 -4] [-2 -3 -4]] true"},
		{10, 0, "10 [[-1] [-2] [-3] [-4] [-5] [-6] [-7] [-8] [-9] [-10]] true"},
		{3, 4, noForm}, {3, -1, noForm}, {1, 2, noForm}, {10, 11, noForm}, {0, 0, noForm}, {-1, 0, noForm}, {-1, -1, noForm}, {11, 0, noForm}, {11, 10, noForm}, {11, 11, noForm},
		{10, 2, noForm}, {10, 3, noForm}, {10, 4, noForm}, {10, 5, noForm}, {10, 6, noForm}, {9, 2, noForm}, {9, 5, noForm}, {8, 2, noForm}, {8, 4, noForm},
		{math.MaxInt64, 0, noForm}, {math.MinInt64, 0, noForm}, {3, math.MaxInt64, noForm}, {3, math.MinInt64, noForm}, {1 << 32, 1, noForm}, {1<<32 + 3, 1, noForm}, {3, 1<<32 + 1, noForm},
	} {
		wantText(t, fmt.Sprint("AtMostForm ", c.letters, " and ", c.most), formText(impl.AtMostForm(c.letters, c.most)), c.want)
	}
	for _, c := range []struct{ letters, most, clauses int64 }{{10, 1, 45}, {10, 7, 45}, {9, 1, 36}, {9, 6, 36}, {8, 1, 28}, {8, 5, 28}, {7, 2, 35}, {7, 3, 35}, {10, 8, 10}} {
		f, ok := impl.AtMostForm(c.letters, c.most)
		wantText(t, fmt.Sprint("AtMostForm ", c.letters, " and ", c.most), fmt.Sprint(len(f.Clauses), " ", ok), fmt.Sprint(c.clauses, " true"))
	}
}
