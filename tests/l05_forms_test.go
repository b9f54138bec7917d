package tests

import (
	"fmt"
	"math"
	"testing"

	"loop.example/g01346/impl"
)

func TestLimitsOfChapter5(t *testing.T) {
	wantText(t, "limits", fmt.Sprint(impl.MaxLetters, impl.MaxClauses, impl.MaxProof), "10 48 128")
}

// formOf returns a form of clauses.
func formOf(letters int64, clauses ...[]int64) impl.Form {
	return impl.Form{Letters: letters, Clauses: clauses}
}

// either, never and pairs are forms of the letters 1 and 2: one of both, that of
// the document's example, and all pairs of signs.
func either() impl.Form { return formOf(2, ints(1, 2)) }
func never() impl.Form  { return formOf(2, ints(1, 2), ints(-1, 2), ints(-2)) }
func pairs() impl.Form {
	return formOf(2, ints(1, 2), ints(1, -2), ints(-1, 2), ints(-1, -2))
}

// bools returns values, 0 for false and 1 for true.
func bools(digits string) []bool {
	var list []bool
	for _, digit := range digits {
		list = append(list, digit == '1')
	}
	return list
}

// digitsText tells values, 0 for false and 1 for true.
func digitsText(values []bool) string {
	text := ""
	for _, value := range values {
		if value {
			text += "1"
		} else {
			text += "0"
		}
	}
	return text
}

// clauseCase is a list that may be a clause.
type clauseCase struct {
	letters int64
	clause  []int64
}

// wrongClauses are those that IsClause does not report.
func wrongClauses() []clauseCase {
	return []clauseCase{
		{2, ints(0)}, {2, ints(3)}, {2, ints(-3)}, {2, ints(1, 3)}, {2, ints(0, 1)}, {2, ints(2, 1)}, {2, ints(-2, 1)}, {2, ints(2, -1)}, {2, ints(-2, -1)},
		{2, ints(1, 1)}, {2, ints(-1, -1)}, {2, ints(1, -1)}, {2, ints(-1, 1)}, {3, ints(1, 2, 2)}, {3, ints(1, 2, -2)}, {3, ints(1, 3, 2)}, {3, ints(2, 1, 3)}, {2, ints(1, 2, 3)},
		{1, ints(2)}, {1, ints(-2)}, {10, ints(11)}, {10, ints(-11)}, {10, ints(1, 2, 3, 4, 5, 6, 7, 8, 9, 10, 11)}, {10, ints(1, 2, 3, 4, 5, 6, 7, 8, 9, 10, 10)}, {10, repeat(5000, int64(1))},
		{0, nil}, {0, ints(0)}, {0, ints(1)}, {-1, nil}, {-2, ints(-1)}, {11, nil}, {11, ints(1)}, {11, ints(11)},
		{math.MaxInt64, nil}, {math.MinInt64, nil}, {math.MinInt64, ints(math.MinInt64)}, {math.MaxInt64, ints(1)}, {1 << 32, nil}, {1<<32 + 2, ints(1)},
		{2, ints(math.MaxInt64)}, {2, ints(math.MinInt64)}, {2, ints(1, math.MinInt64)}, {2, ints(math.MinInt64, 1)}, {2, ints(-1 << 32)}, {2, ints(1<<32 + 1)},
	}
}

func TestIsClause(t *testing.T) {
	for _, c := range []clauseCase{
		{1, nil}, {10, nil}, {1, ints(1)}, {1, ints(-1)}, {2, ints(2)}, {2, ints(-2)}, {2, ints(1, 2)}, {2, ints(-1, 2)}, {2, ints(1, -2)}, {2, ints(-1, -2)}, {3, ints(1, 3)},
		{10, ints(10)}, {10, ints(-10)}, {10, ints(1, 2, 3, 4, 5, 6, 7, 8, 9, 10)}, {10, ints(-1, -2, -3, -4, -5, -6, -7, -8, -9, -10)},
	} {
		wantBool(t, fmt.Sprint("IsClause ", c), impl.IsClause(c.letters, c.clause), true)
	}
	for _, c := range wrongClauses() {
		wantBool(t, fmt.Sprintf("IsClause %.99s", fmt.Sprint(c)), impl.IsClause(c.letters, c.clause), false)
	}
}

// rightForms are valid ones, also at the limits.
func rightForms() []impl.Form {
	ten := ints(1, 2, 3, 4, 5, 6, 7, 8, 9, 10)
	return []impl.Form{
		formOf(1), formOf(10), formOf(1, nil), formOf(10, nil, nil), formOf(1, ints(1)), formOf(1, ints(-1), ints(1)), either(), never(), pairs(),
		formOf(10, ten), formOf(10, repeat(48, ten)...), formOf(10, make([][]int64, 48)...), formOf(3, ints(2), ints(2), ints(-3)), formOf(3, ints(1, 2), ints(2)),
	}
}

// wrongForms are those that are not valid.
func wrongForms() []impl.Form {
	list := []impl.Form{
		formOf(0), formOf(-1), formOf(11), formOf(math.MaxInt64), formOf(math.MinInt64), formOf(1 << 32), formOf(1<<32 + 1), {},
		formOf(10, make([][]int64, 49)...), formOf(1, repeat(49, ints(1))...), formOf(2, make([][]int64, 5000)...), formOf(0, ints(1)), formOf(0, nil),
	}
	for _, c := range wrongClauses() {
		list = append(list, formOf(c.letters, c.clause), formOf(c.letters, ints(1), c.clause), formOf(c.letters, c.clause, ints(-1)))
	}
	return list
}

func TestValidForm(t *testing.T) {
	for _, f := range rightForms() {
		wantBool(t, fmt.Sprint("ValidForm ", f), impl.ValidForm(f), true)
	}
	for _, f := range wrongForms() {
		wantBool(t, fmt.Sprintf("ValidForm %.99s", fmt.Sprint(f)), impl.ValidForm(f), false)
	}
}

func TestSameForm(t *testing.T) {
	for _, f := range append(rightForms(), wrongForms()...) {
		wantBool(t, fmt.Sprintf("SameForm %.99s", fmt.Sprint(f)), impl.SameForm(f, f), true)
		wantBool(t, fmt.Sprintf("SameForm with a copy %.99s", fmt.Sprint(f)), impl.SameForm(copyForm(f), f), true)
	}
	wantBool(t, "SameForm, nil and empty", impl.SameForm(impl.Form{Letters: 1, Clauses: [][]int64{{}}}, formOf(1, nil)), true)
	wantBool(t, "SameForm, nil and empty clauses", impl.SameForm(impl.Form{Letters: 1, Clauses: [][]int64{}}, formOf(1)), true)
	for _, c := range []struct{ a, b impl.Form }{
		{formOf(1), formOf(2)}, {formOf(1), formOf(1, nil)}, {formOf(1, ints(1)), formOf(1, ints(-1))}, {formOf(2, ints(1)), formOf(2, ints(1, 2))},
		{formOf(2, ints(1), ints(2)), formOf(2, ints(2), ints(1))}, {formOf(2, ints(1)), formOf(2, ints(1), ints(1))}, {formOf(2, ints(1, 2)), formOf(2, ints(1), ints(2))},
		{formOf(0), formOf(-1)}, {formOf(11, ints(7, 7)), formOf(11, ints(7, 8))}, {formOf(2, ints(1, 2)), formOf(2, ints(2, 1))}, {formOf(math.MinInt64), formOf(math.MaxInt64)},
		{formOf(3, ints(1), ints(2), ints(3)), formOf(3, ints(1), ints(2), ints(-3))},
	} {
		wantBool(t, fmt.Sprint("SameForm ", c), impl.SameForm(c.a, c.b), false)
		wantBool(t, fmt.Sprint("SameForm, turned around, ", c), impl.SameForm(c.b, c.a), false)
	}
}

func copyForm(f impl.Form) impl.Form {
	copied := impl.Form{Letters: f.Letters}
	for _, clause := range f.Clauses {
		copied.Clauses = append(copied.Clauses, append([]int64(nil), clause...))
	}
	return copied
}

func holdsText(f impl.Form, values []bool) string {
	holds, ok := impl.HoldsBy(f, values)
	return fmt.Sprint(holds, " ", ok)
}

func TestHoldsBy(t *testing.T) {
	for _, c := range []struct {
		form   impl.Form
		values string
		want   string
	}{
		{either(), "01", "true true"}, {either(), "10", "true true"}, {either(), "11", "true true"}, {either(), "00", "false true"},
		{formOf(1), "0", "true true"}, {formOf(1), "1", "true true"}, {formOf(1, nil), "0", "false true"}, {formOf(1, nil), "1", "false true"},
		{formOf(2, ints(1), nil), "11", "false true"}, {formOf(1, ints(1)), "1", "true true"}, {formOf(1, ints(1)), "0", "false true"},
		{formOf(1, ints(-1)), "1", "false true"}, {formOf(1, ints(-1)), "0", "true true"}, {never(), "00", "false true"}, {never(), "01", "false true"},
		{never(), "10", "false true"}, {never(), "11", "false true"}, {formOf(3, ints(-1, 3), ints(2)), "011", "true true"}, {formOf(3, ints(-1, 3), ints(2)), "110", "false true"},
		{formOf(10, ints(10)), "0000000001", "true true"}, {formOf(10, ints(10)), "1111111110", "false true"}, {formOf(10, ints(1)), "1000000000", "true true"},
		{formOf(10, repeat(48, ints(-1))...), "0000000000", "true true"}, {formOf(10, append(repeat(47, ints(-1)), ints(1))...), "0000000000", "false true"},
		{either(), "", "false false"}, {either(), "1", "false false"}, {either(), "111", "false false"}, {formOf(10), "11111111111", "false false"}, {formOf(0), "", "false false"},
	} {
		wantText(t, fmt.Sprint("HoldsBy of ", c.form, " and ", c.values), holdsText(c.form, bools(c.values)), c.want)
	}
	for _, f := range wrongForms() {
		wantText(t, fmt.Sprintf("HoldsBy of %.99s", fmt.Sprint(f)), holdsText(f, make([]bool, max(0, min(20, f.Letters)))), "false false")
	}
}

func unitsText(f impl.Form, given []int64) string {
	known, breaks, ok := impl.UnitsOf(f, given)
	return fmt.Sprint(known, " ", breaks, " ", ok)
}

// wrongGiven are lists that have no literals of different letters, up to 3.
func wrongGiven() [][]int64 {
	return [][]int64{
		{0}, {4}, {-4}, {1, 1}, {-1, -1}, {1, -1}, {-1, 1}, {2, 1, 2}, {2, 1, -2}, {3, 2, 1, 0}, {1, 2, 3, 4}, {3, 2, 1, 3}, {1, 2, 3, -1},
		{math.MaxInt64}, {math.MinInt64}, {1, math.MinInt64}, {1 << 32}, {1<<32 + 1}, {math.MinInt64, math.MinInt64}, repeat(5000, int64(1)),
	}
}

func TestUnitsOf(t *testing.T) {
	chain := formOf(4, ints(-3, 4), ints(-2, 3), ints(-1, 2))
	for _, c := range []struct {
		what  string
		form  impl.Form
		given []int64
		want  string
	}{
		{"the stage's example", either(), ints(-1), "[-1 2] false true"},
		{"the document's form", never(), nil, "[-2 1] true true"},
		{"nothing that is told", either(), nil, "[] false true"},
		{"a literal that is true", either(), ints(1), "[1] false true"},
		{"no clauses", formOf(3), ints(-2, 1), "[-2 1] false true"},
		{"a clause without literals", formOf(2, ints(1), nil), nil, "[] true true"},
		{"a clause without literals behind what is given", formOf(2, ints(1), nil), ints(2, -1), "[2 -1] true true"},
		{"what is given breaks a clause", either(), ints(-2, -1), "[-2 -1] true true"},
		{"given in any order", formOf(3, ints(-1, 2, -3)), ints(3, -2), "[3 -2 -1] false true"},
		{"the first clause, again and again", chain, ints(1), "[1 2 3 4] false true"},
		{"turned around", chain, ints(-4), "[-4 -3 -2 -1] false true"},
		{"in the middle", chain, ints(2), "[2 3 4] false true"},
		{"it begins again with the first clause", formOf(4, ints(-2, 3), ints(1), ints(-1, 2), ints(4)), nil, "[1 2 3 4] false true"},
		{"it ends as soon as one breaks", formOf(3, ints(1), ints(3), ints(-1)), nil, "[1] true true"},
		{"one that breaks comes before one that tells", formOf(3, ints(3), ints(-1, -2)), ints(1, 2), "[1 2] true true"},
		{"signs that conflict", formOf(1, ints(1), ints(-1)), nil, "[1] true true"},
		{"signs that conflict, turned around", formOf(1, ints(-1), ints(1)), nil, "[-1] true true"},
		{"equal clauses", formOf(2, ints(2), ints(2)), nil, "[2] false true"},
		{"two that are not known", formOf(3, ints(1, 2, 3)), ints(-2), "[-2] false true"},
		{"one that is not known", formOf(3, ints(1, 2, 3)), ints(-3, -1), "[-3 -1 2] false true"},
		{"all pairs", pairs(), ints(1), "[1 2] true true"},
		{"all pairs, the other sign", pairs(), ints(-1), "[-1 2] true true"},
		{"all pairs, nothing given", pairs(), nil, "[] false true"},
		{"all letters", formOf(10), ints(10, -9, 8, -7, 6, -5, 4, -3, 2, -1), "[10 -9 8 -7 6 -5 4 -3 2 -1] false true"},
		{"the last letter", formOf(10, ints(-1, -10)), ints(10), "[10 -1] false true"},
	} {
		wantText(t, "UnitsOf, "+c.what, unitsText(c.form, c.given), c.want)
	}
	for _, given := range wrongGiven() {
		wantText(t, fmt.Sprintf("UnitsOf with %.99s", fmt.Sprint(given)), unitsText(formOf(3, ints(1)), given), "[] false false")
	}
	for _, f := range wrongForms() {
		wantText(t, fmt.Sprintf("UnitsOf of %.99s", fmt.Sprint(f)), unitsText(f, nil), "[] false false")
	}
}

func modelText(values []bool, ok bool) string { return fmt.Sprint(digitsText(values), " ", ok) }

func countText(count int64, ok bool) string { return fmt.Sprint(count, " ", ok) }

func TestModels(t *testing.T) {
	for _, c := range []struct {
		what         string
		form         impl.Form
		first, count string
	}{
		{"the example", either(), "01 true", "3 true"},
		{"the document's form without a model", never(), " false", "0 true"},
		{"all pairs", pairs(), " false", "0 true"},
		{"no clauses, one letter", formOf(1), "0 true", "2 true"},
		{"no clauses, most letters", formOf(10), "0000000000 true", "1024 true"},
		{"a clause without literals", formOf(3, nil), " false", "0 true"},
		{"a clause without literals behind others", formOf(3, ints(1), nil), " false", "0 true"},
		{"a letter that no clause has", formOf(2, ints(2)), "01 true", "2 true"},
		{"a letter that no clause has, the last one", formOf(2, ints(1)), "10 true", "2 true"},
		{"signs that conflict", formOf(1, ints(1), ints(-1)), " false", "0 true"},
		{"equal clauses", formOf(2, ints(1, 2), ints(1, 2)), "01 true", "3 true"},
		{"the first value is that of the first letter", formOf(3, ints(1, 2, 3), ints(-3)), "010 true", "3 true"},
		{"one model alone", formOf(3, ints(1), ints(-2), ints(3)), "101 true", "1 true"},
		{"all true", formOf(10, ints(1), ints(2), ints(3), ints(4), ints(5), ints(6), ints(7), ints(8), ints(9), ints(10)), "1111111111 true", "1 true"},
		{"all but one", formOf(10, ints(1, 2, 3, 4, 5, 6, 7, 8, 9, 10)), "0000000001 true", "1023 true"},
		{"all but one, the first one", formOf(10, ints(-1, -2, -3, -4, -5, -6, -7, -8, -9, -10)), "0000000000 true", "1023 true"},
		{"most clauses, the last one tells", formOf(2, append(repeat(47, ints(-1)), ints(2))...), "01 true", "1 true"},
	} {
		first, ok := impl.FirstModel(c.form)
		wantText(t, "FirstModel, "+c.what, modelText(first, ok), c.first)
		wantText(t, "CountModels, "+c.what, countText(impl.CountModels(c.form)), c.count)
	}
	for _, f := range wrongForms() {
		first, ok := impl.FirstModel(f)
		wantText(t, fmt.Sprintf("FirstModel of %.99s", fmt.Sprint(f)), modelText(first, ok), " false")
		wantText(t, fmt.Sprintf("CountModels of %.99s", fmt.Sprint(f)), countText(impl.CountModels(f)), "0 false")
	}
}

func TestCountOn(t *testing.T) {
	same := formOf(3, ints(-1, 3), ints(1, -3))
	for _, c := range []struct {
		what string
		form impl.Form
		list []int64
		want string
	}{
		{"the stage's example", either(), ints(1), "2 true"},
		{"all letters", either(), ints(1, 2), "3 true"},
		{"no letters", either(), nil, "1 true"},
		{"no letters and no model", never(), nil, "0 true"},
		{"no model", never(), ints(1, 2), "0 true"},
		{"letters that are equal", same, ints(1, 3), "2 true"},
		{"letters that are not", same, ints(1, 2), "4 true"},
		{"the last letter", same, ints(3), "2 true"},
		{"a letter that is known", formOf(3, ints(2)), ints(2), "1 true"},
		{"no clauses", formOf(10), ints(1, 2, 3, 4, 5, 6, 7, 8, 9, 10), "1024 true"},
		{"no clauses, the first and the last letter", formOf(10), ints(1, 10), "4 true"},
		{"descending", either(), ints(2, 1), "0 false"},
		{"twice the same", either(), ints(1, 1), "0 false"},
		{"an opposite", either(), ints(-1), "0 false"},
		{"an opposite behind a letter", either(), ints(1, -2), "0 false"},
		{"no letter", either(), ints(0), "0 false"},
		{"a letter beyond the last one", either(), ints(3), "0 false"},
		{"a letter beyond the last one, behind all", either(), ints(1, 2, 3), "0 false"},
		{"numbers that are none", either(), ints(math.MinInt64, math.MaxInt64), "0 false"},
		{"a number far off", either(), ints(1<<32 + 1), "0 false"},
	} {
		wantText(t, "CountOn, "+c.what, countText(impl.CountOn(c.form, c.list)), c.want)
	}
	for _, f := range wrongForms() {
		wantText(t, fmt.Sprintf("CountOn of %.99s", fmt.Sprint(f)), countText(impl.CountOn(f, nil)), "0 false")
	}
}

func formsText(list []impl.Form, workers int64) string {
	counts, ok := impl.FormsShared(list, workers)
	return fmt.Sprint(counts, " ", ok)
}

func TestFormsShared(t *testing.T) {
	eight := []impl.Form{formOf(1), formOf(2), formOf(3), formOf(4), either(), never(), pairs(), formOf(10)}
	for workers := int64(1); workers <= 8; workers++ {
		what := fmt.Sprint("FormsShared with workers ", workers)
		wantText(t, what, formsText([]impl.Form{either(), never()}, workers), "[3 0] true")
		wantText(t, what+", eight forms", formsText(eight, workers), "[2 4 8 16 3 0 0 1024] true")
		wantText(t, what+", one form", formsText(eight[7:], workers), "[1024] true")
		wantText(t, what+", no forms", formsText(nil, workers), "[] true")
		wantText(t, what+", nine forms", formsText(append(eight[:8:8], formOf(1)), workers), "[] false")
	}
	for _, workers := range []int64{0, -1, 9, math.MaxInt64, math.MinInt64, 1 << 32, 1<<32 + 1} {
		wantText(t, fmt.Sprint("FormsShared with workers ", workers), formsText(eight, workers), "[] false")
		wantText(t, fmt.Sprint("FormsShared of none with workers ", workers), formsText(nil, workers), "[] false")
	}
	for _, f := range wrongForms() {
		what := fmt.Sprintf("FormsShared of %.99s", fmt.Sprint(f))
		wantText(t, what, formsText([]impl.Form{f}, 1), "[] false")
		wantText(t, what+" behind others", formsText([]impl.Form{either(), f}, 2), "[] false")
		wantText(t, what+" before others", formsText([]impl.Form{f, either()}, 2), "[] false")
	}
}
