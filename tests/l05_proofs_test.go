package tests

import (
	"fmt"
	"math"
	"testing"

	"loop.example/g01346/impl"
)

func learnText(f impl.Form, chosen []int64) string {
	clause, ok := impl.LearnFrom(f, chosen)
	return fmt.Sprint(clause, " ", ok)
}

func TestLearnFrom(t *testing.T) {
	for _, c := range []struct {
		what   string
		form   impl.Form
		chosen []int64
		want   string
	}{
		{"the stage's example", pairs(), ints(1), "[-1] true"},
		{"the other sign", pairs(), ints(-1), "[1] true"},
		{"nothing is broken", either(), nil, "[] false"},
		{"nothing is broken by what is chosen", either(), ints(-2), "[] false"},
		{"no clauses", formOf(2), ints(1, -2), "[] false"},
		{"nothing is chosen", never(), nil, "[] true"},
		{"a clause without literals", formOf(2, ints(1), nil), ints(2, 1), "[] true"},
		{"what is chosen breaks a clause", either(), ints(-1, -2), "[1 2] true"},
		{"in ascending order of letters", either(), ints(-2, -1), "[1 2] true"},
		{"what has no part in it is left out", formOf(4, ints(-1, 2), ints(-1, -2)), ints(3, 1, -4), "[-1] true"},
		{"a long way back", formOf(5, ints(-1, 2), ints(-2, 3), ints(-3, 4), ints(-4, 5), ints(-4, -5)), ints(1), "[-1] true"},
		{"two ways back", formOf(4, ints(-1, 3), ints(-2, 4), ints(-3, -4)), ints(2, 1), "[-1 -2] true"},
		{"one literal, known by two chosen ones", formOf(4, ints(-1, -2, 3), ints(-3, 4), ints(-3, -4)), ints(1, 2), "[-1 -2] true"},
		{"both a way back and a chosen one", formOf(3, ints(-1, 3), ints(-1, -2, -3)), ints(2, 1), "[-1 -2] true"},
		{"the first clause that is broken", formOf(3, ints(-1, -3), ints(-2, -3)), ints(3, 2, 1), "[-1 -3] true"},
		{"the first clause that is broken, turned around", formOf(3, ints(-2, -3), ints(-1, -3)), ints(3, 2, 1), "[-2 -3] true"},
		{"the first clause that made a literal known", formOf(4, ints(-1, 3), ints(-2, 3), ints(-3, 4), ints(-3, -4)), ints(1, 2), "[-1] true"},
		{"the first clause that made it known, turned around", formOf(4, ints(-2, 3), ints(-1, 3), ints(-3, 4), ints(-3, -4)), ints(1, 2), "[-2] true"},
		{"a chosen one is not looked behind", formOf(3, ints(-1, 2), ints(-2, 3), ints(-2, -3)), ints(1, 2), "[-2] true"},
		{"known without what is chosen", formOf(3, ints(2), ints(-1, -2, 3), ints(-1, -3)), ints(1), "[-1] true"},
		{"signs that conflict", formOf(2, ints(1), ints(-1)), ints(2), "[] true"},
		{"of both signs", formOf(4, ints(1, -2, 3), ints(-3, -4)), ints(4, 2, -1), "[1 -2 -4] true"},
		{"all letters", formOf(10, ints(1, -2, 3, -4, 5, -6, 7, -8, 9, -10)), ints(10, -9, 8, -7, 6, -5, 4, -3, 2, -1), "[1 -2 3 -4 5 -6 7 -8 9 -10] true"},
	} {
		wantText(t, "LearnFrom, "+c.what, learnText(c.form, c.chosen), c.want)
	}
	for _, chosen := range wrongGiven() {
		wantText(t, fmt.Sprintf("LearnFrom with %.99s", fmt.Sprint(chosen)), learnText(formOf(3, nil), chosen), "[] false")
	}
	for _, f := range wrongForms() {
		wantText(t, fmt.Sprintf("LearnFrom of %.99s", fmt.Sprint(f)), learnText(f, nil), "[] false")
	}
}

// lists makes a list of clauses.
func lists(clauses ...[]int64) [][]int64 { return clauses }

// triples are all signs of three letters.
func triples() impl.Form {
	return formOf(3, ints(1, 2, 3), ints(1, 2, -3), ints(1, -2, 3), ints(1, -2, -3), ints(-1, 2, 3), ints(-1, 2, -3), ints(-1, -2, 3), ints(-1, -2, -3))
}

func TestIsProof(t *testing.T) {
	empty := []int64{}
	for _, c := range []struct {
		what  string
		form  impl.Form
		proof [][]int64
		want  bool
	}{
		{"the document's proof", never(), lists(ints(-1), empty), true},
		{"it follows at once", never(), lists(empty), true},
		{"the empty proof", never(), nil, false},
		{"the empty proof of a clause without literals", formOf(1, nil), nil, false},
		{"a clause without literals", formOf(1, nil), lists(empty), true},
		{"a clause without literals, and any before", formOf(2, nil), lists(ints(1, -2), ints(-1), empty), true},
		{"a form with a model", either(), lists(empty), false},
		{"clauses that follow, and the last one not", either(), lists(ints(1, 2), empty), false},
		{"the last one has literals", never(), lists(ints(-1)), false},
		{"the last one has literals, one before none", never(), lists(empty, ints(1)), false},
		{"one before has none, too", never(), lists(empty, ints(1), empty), true},
		{"a proof that is cut at its end", pairs(), lists(ints(1), ints(-1)), false},
		{"a proof that is cut at its beginning", pairs(), lists(empty), false},
		{"the whole proof", pairs(), lists(ints(1), ints(-1), empty), true},
		{"one clause is enough", pairs(), lists(ints(-2), empty), true},
		{"in three letters", triples(), lists(ints(1, 2), ints(1), ints(-1, 2), empty), true},
		{"in three letters, one is missing", triples(), lists(ints(1, 2), ints(1), empty), false},
		{"in three letters, turned around", triples(), lists(ints(1), ints(1, 2), ints(-1, 2), empty), false},
		{"in three letters, one does not follow", triples(), lists(ints(2), ints(1, 2), ints(1), empty), false},
		{"a clause follows from one right before", triples(), lists(ints(2, 3), ints(2), ints(-2, 3), empty), true},
		{"a clause of the form itself", never(), lists(ints(1, 2), ints(-2), empty), true},
		{"a clause that has a part", never(), lists(ints(-1, -2), empty), true},
		{"a list that is no clause", never(), lists(ints(2, 1), empty), false},
		{"signs that conflict", never(), lists(ints(1, -1), empty), false},
		{"a literal twice", never(), lists(ints(1, 1), empty), false},
		{"a literal beyond the last one", never(), lists(ints(3), empty), false},
		{"a literal of nothing", never(), lists(ints(0), empty), false},
		{"a number far off", never(), lists(ints(math.MinInt64), empty), false},
		{"a wrong one behind a right one", never(), lists(ints(-1), ints(-3), empty), false},
		{"as long as can be", pairs(), append(repeat(127, ints(1)), empty), true},
		{"one longer", pairs(), append(repeat(128, ints(1)), empty), false},
		{"far longer", pairs(), append(repeat(5000, ints(1)), empty), false},
		{"most clauses, and most of a proof", formOf(2, append(repeat(44, ints(1, 2)), pairs().Clauses...)...), append(repeat(127, ints(1)), empty), true},
		{"the last clause of a long proof", triples(), append(append(repeat(125, ints(1, 2)), ints(1), ints(-1, 2)), empty), true},
		{"all without literals", never(), repeat(128, empty), true},
		{"no clauses", formOf(1), lists(empty), false},
	} {
		wantBool(t, "IsProof, "+c.what, impl.IsProof(c.form, c.proof), c.want)
	}
	for _, f := range wrongForms() {
		wantBool(t, fmt.Sprintf("IsProof of %.99s", fmt.Sprint(f)), impl.IsProof(f, lists(empty)), false)
	}
}

func proofText(f impl.Form) string {
	proof, ok := impl.ProveNo(f)
	return fmt.Sprint(proof, " ", ok)
}

// lateForm has all pairs of signs of its last two letters: all values of the
// letters before are tried first, and a proof has 2^letters - 1 clauses.
func lateForm(letters int64) impl.Form {
	return formOf(letters, ints(letters-1, letters), ints(letters-1, -letters), ints(1-letters, letters), ints(1-letters, -letters))
}

// longForm has a proof of 129 clauses: for all values of the letters 1 to 5 but
// one, 6 is tried, and for this one, 7 as well if 6 is false.
func longForm() impl.Form {
	f := formOf(8, ints(-6, 7), ints(-6, -7), ints(6, 7, 8), ints(6, 7, -8), ints(6, -7, 8), ints(6, -7, -8))
	for letter := int64(1); letter <= 5; letter++ {
		f.Clauses = append(f.Clauses, ints(letter, 6, 7), ints(letter, 6, -7))
	}
	return f
}

func TestProveNo(t *testing.T) {
	for _, c := range []struct {
		what string
		form impl.Form
		want string
	}{
		{"the document's form", never(), "[[]] true"},
		{"all pairs", pairs(), "[[1] [-1] []] true"},
		{"all triples", triples(), "[[1 2] [1 -2] [1] [-1 2] [-1 -2] [-1] []] true"},
		{"a form with a model", either(), "[] false"},
		{"no clauses", formOf(3), "[] false"},
		{"a clause without literals", formOf(3, nil), "[[]] true"},
		{"a clause without literals behind others", formOf(3, ints(1, 2), nil), "[[]] true"},
		{"signs that conflict", formOf(2, ints(2), ints(-2)), "[[]] true"},
		{"letters that no clause has", lateForm(3), "[[1 2] [1 -2] [1] [-1 2] [-1 -2] [-1] []] true"},
		{"the first letter that is not known", formOf(4, ints(-2), ints(1), ints(3, 4), ints(3, -4), ints(-3, 4), ints(-3, -4)), "[[3] [-3] []] true"},
		{"a letter that becomes known is passed over", formOf(4, ints(1, 2), ints(-1, -2), ints(3, 4), ints(3, -4), ints(-3, 4), ints(-3, -4)), "[[1 3] [1 -3] [1] [-1 3] [-1 -3] [-1] []] true"},
		{"one sign alone needs more", formOf(3, ints(-1), ints(1, 2, 3), ints(1, 2, -3), ints(1, -2, 3), ints(-2, -3)), "[[2] [-2] []] true"},
	} {
		wantText(t, "ProveNo, "+c.what, proofText(c.form), c.want)
	}
	for _, f := range wrongForms() {
		wantText(t, fmt.Sprintf("ProveNo of %.99s", fmt.Sprint(f)), proofText(f), "[] false")
	}
}

// TestProofsAtTheirLimit wants proofs of up to 128 clauses, and none of more.
func TestProofsAtTheirLimit(t *testing.T) {
	for letters := int64(2); letters <= 7; letters++ {
		proof, ok := impl.ProveNo(lateForm(letters))
		wantText(t, fmt.Sprint("ProveNo of late letters ", letters), fmt.Sprint(len(proof), " ", ok, " ", impl.IsProof(lateForm(letters), proof)), fmt.Sprint(1<<letters-1, " true true"))
	}
	for _, f := range []impl.Form{longForm(), lateForm(8), lateForm(9), lateForm(10)} {
		wantText(t, fmt.Sprint("ProveNo of ", f), proofText(f), "[] false")
	}
	proof := modelProof(longForm(), nil)
	wantText(t, "the proof of a long form", fmt.Sprint(len(proof)), "129")
	wantBool(t, "the proof of a long form", impl.IsProof(longForm(), proof), false)
}

func coreText(f impl.Form) string {
	core, ok := impl.CoreOf(f)
	return fmt.Sprint(core, " ", ok)
}

func TestCoreOf(t *testing.T) {
	for _, c := range []struct {
		what string
		form impl.Form
		want string
	}{
		{"the stage's example", formOf(2, ints(2), ints(1), ints(-1)), "[1 2] true"},
		{"all clauses are needed", never(), "[0 1 2] true"},
		{"all pairs", pairs(), "[0 1 2 3] true"},
		{"a form with a model", either(), "[] false"},
		{"no clauses", formOf(2), "[] false"},
		{"a clause without literals", formOf(2, ints(1), nil, ints(-1)), "[1] true"},
		{"clauses without literals, the last one stays", formOf(2, nil, nil, nil), "[2] true"},
		{"equal clauses, the last one stays", formOf(1, ints(1), ints(1), ints(-1), ints(-1)), "[1 3] true"},
		{"a clause that others tell", formOf(2, append(lists(ints(1)), pairs().Clauses...)...), "[1 2 3 4] true"},
		{"the first one is left out first", formOf(2, ints(1), ints(-1), ints(2), ints(-2)), "[2 3] true"},
		{"a small core behind a large one", formOf(2, append(pairs().Clauses, ints(-1), ints(1))...), "[4 5] true"},
		{"most clauses", formOf(1, append(repeat(47, ints(1)), ints(-1))...), "[46 47] true"},
		{"most clauses, the first one needed", formOf(1, append(lists(ints(1)), repeat(47, ints(-1))...)...), "[0 47] true"},
		{"most letters", lateForm(10), "[0 1 2 3] true"},
	} {
		wantText(t, "CoreOf, "+c.what, coreText(c.form), c.want)
	}
	for _, f := range wrongForms() {
		wantText(t, fmt.Sprintf("CoreOf of %.99s", fmt.Sprint(f)), coreText(f), "[] false")
	}
}

func mostText(f impl.Form) string {
	most, values, ok := impl.MostTrue(f)
	return fmt.Sprint(most, " ", digitsText(values), " ", ok)
}

func TestMostTrue(t *testing.T) {
	for _, c := range []struct {
		what string
		form impl.Form
		want string
	}{
		{"the stage's example", never(), "2 00 true"},
		{"a form with a model", either(), "1 01 true"},
		{"no clauses", formOf(3), "0 000 true"},
		{"clauses without literals never hold", formOf(2, nil, nil), "0 00 true"},
		{"a clause without literals, and one that holds", formOf(2, nil, ints(1)), "1 10 true"},
		{"equal clauses count twice", formOf(2, ints(-1), ints(1), ints(1)), "2 10 true"},
		{"all pairs", pairs(), "3 00 true"},
		{"later values are better", formOf(3, ints(3), ints(2), ints(-1), ints(3)), "4 011 true"},
		{"most clauses", formOf(10, repeat(48, ints(10))...), "48 0000000001 true"},
		{"half of most clauses", formOf(10, append(repeat(24, ints(10)), repeat(24, ints(-10))...)...), "24 0000000000 true"},
		{"most clauses, none of which holds", formOf(10, make([][]int64, 48)...), "0 0000000000 true"},
		{"one more than half", formOf(1, append(repeat(25, ints(1)), repeat(23, ints(-1))...)...), "25 1 true"},
	} {
		wantText(t, "MostTrue, "+c.what, mostText(c.form), c.want)
	}
	for _, f := range wrongForms() {
		wantText(t, fmt.Sprintf("MostTrue of %.99s", fmt.Sprint(f)), mostText(f), "0  false")
	}
}

func TestHornAndPairModels(t *testing.T) {
	for _, c := range []struct {
		what       string
		form       impl.Form
		horn, pair string
	}{
		{"the stage's example", formOf(2, ints(1), ints(-1, 2)), "11 true", "11 true"},
		{"one of both", either(), " false", "01 true"},
		{"no clauses", formOf(3), "000 true", "000 true"},
		{"a clause without literals", formOf(3, nil), " false", " false"},
		{"a clause without literals behind others", formOf(3, ints(1), nil), " false", " false"},
		{"opposites alone", formOf(3, ints(-1, -2), ints(-3)), "000 true", "000 true"},
		{"three opposites", formOf(3, ints(-1, -2, -3)), "000 true", " false"},
		{"three opposites before pairs", formOf(3, ints(-1, -2, -3), ints(1)), "100 true", " false"},
		{"three opposites behind pairs", formOf(3, ints(1), ints(-1, -2, -3)), "100 true", " false"},
		{"two letters behind others", formOf(3, ints(-1), ints(2, 3)), " false", "001 true"},
		{"two letters and an opposite", formOf(3, ints(1, 2, -3)), " false", " false"},
		{"two opposites and a letter", formOf(3, ints(-1, -2, 3), ints(2), ints(1)), "111 true", " false"},
		{"as few as can be, not the first one", formOf(3, ints(1, -3), ints(3)), "101 true", "101 true"},
		{"a chain", formOf(4, ints(-3, 4), ints(-2, 3), ints(-1, 2), ints(1)), "1111 true", "1111 true"},
		{"a chain that is broken", formOf(4, ints(-3, 4), ints(-2, 3), ints(2), ints(-1)), "0111 true", "0111 true"},
		{"no model", formOf(2, ints(1), ints(-1, 2), ints(-2)), " false", " false"},
		{"signs that conflict", formOf(1, ints(-1), ints(1)), " false", " false"},
		{"all pairs", pairs(), " false", " false"},
		{"the document's form without a model", never(), " false", " false"},
		{"equal clauses", formOf(2, ints(-1, 2), ints(-1, 2)), "00 true", "00 true"},
		{"a letter that no clause has", formOf(3, ints(3)), "001 true", "001 true"},
		{"most letters", formOf(10, ints(10), ints(1, -10)), "1000000001 true", "1000000001 true"},
		{"longest clauses", formOf(10, ints(-1, -2, -3, -4, -5, -6, -7, -8, -9, 10)), "0000000000 true", " false"},
	} {
		horn, ok := impl.HornModel(c.form)
		wantText(t, "HornModel, "+c.what, modelText(horn, ok), c.horn)
		pair, ok := impl.PairModel(c.form)
		wantText(t, "PairModel, "+c.what, modelText(pair, ok), c.pair)
	}
	for _, f := range wrongForms() {
		horn, ok := impl.HornModel(f)
		wantText(t, fmt.Sprintf("HornModel of %.99s", fmt.Sprint(f)), modelText(horn, ok), " false")
		pair, ok := impl.PairModel(f)
		wantText(t, fmt.Sprintf("PairModel of %.99s", fmt.Sprint(f)), modelText(pair, ok), " false")
	}
}

func TestOddModel(t *testing.T) {
	ten := ints(1, 2, 3, 4, 5, 6, 7, 8, 9, 10)
	for _, c := range []struct {
		what    string
		letters int64
		rows    [][]int64
		odd     string
		want    string
	}{
		{"the stage's example", 2, lists(ints(1, 2)), "1", "01 true"},
		{"an even row", 2, lists(ints(1, 2)), "0", "00 true"},
		{"no rows", 3, nil, "", "000 true"},
		{"rows that conflict", 2, lists(ints(1, 2), ints(1, 2)), "10", " false"},
		{"rows that conflict together", 3, lists(ints(1, 2), ints(2, 3), ints(1, 3)), "111", " false"},
		{"rows that do not", 3, lists(ints(1, 2), ints(2, 3), ints(1, 3)), "110", "010 true"},
		{"equal rows", 2, lists(ints(1, 2), ints(1, 2)), "11", "01 true"},
		{"an even row of nothing", 2, lists(nil), "0", "00 true"},
		{"an odd row of nothing", 2, lists(nil), "1", " false"},
		{"a row of one letter", 3, lists(ints(2)), "1", "010 true"},
		{"the first values", 3, lists(ints(1, 2, 3)), "1", "001 true"},
		{"three are odd", 3, lists(ints(1, 2, 3), ints(1), ints(2)), "111", "111 true"},
		{"the last values", 10, append(repeat(9, ints(1)), ten, ints(1), ints(2), ints(3), ints(4), ints(5), ints(6), ints(7), ints(8), ints(9)), "1111111110111111111", "1111111111 true"},
		{"most letters", 10, lists(ten), "1", "0000000001 true"},
		{"one letter", 1, lists(ints(1)), "1", "1 true"},
		{"most rows", 2, repeat(48, ints(2)), digitsText(repeat(48, true)), "01 true"},
		{"most rows, the last one conflicts", 2, repeat(48, ints(2)), digitsText(repeat(47, true)) + "0", " false"},
		{"one row beyond most", 2, repeat(49, ints(2)), digitsText(repeat(49, true)), " false"},
		{"more odd than rows", 2, lists(ints(1)), "11", " false"},
		{"less odd than rows", 2, lists(ints(1), ints(2)), "1", " false"},
		{"odd without rows", 2, nil, "0", " false"},
		{"a row that descends", 2, lists(ints(2, 1)), "1", " false"},
		{"a letter twice", 2, lists(ints(1, 1)), "0", " false"},
		{"an opposite", 2, lists(ints(-1)), "1", " false"},
		{"no letter", 2, lists(ints(0)), "0", " false"},
		{"a letter beyond the last one", 2, lists(ints(3)), "1", " false"},
		{"a wrong row behind a right one", 2, lists(ints(1), ints(1, 3)), "11", " false"},
		{"numbers far off", 2, lists(ints(math.MinInt64, math.MaxInt64)), "1", " false"},
		{"no letters", 0, nil, "", " false"},
		{"less than no letters", -1, nil, "", " false"},
		{"one beyond most letters", 11, nil, "", " false"},
		{"very many letters", math.MaxInt64, nil, "", " false"},
		{"the least number of letters", math.MinInt64, nil, "", " false"},
		{"letters far off", 1<<32 + 2, lists(ints(1, 2)), "1", " false"},
	} {
		values, ok := impl.OddModel(c.letters, c.rows, bools(c.odd))
		wantText(t, "OddModel, "+c.what, modelText(values, ok), c.want)
	}
}

func turnsText(f impl.Form, all []bool) string {
	holds, one := impl.AllSome(f, all)
	move, two := impl.FirstMove(f, all)
	return fmt.Sprint(holds, " ", one, ", ", move, " ", two)
}

func TestTurns(t *testing.T) {
	same := formOf(2, ints(1, -2), ints(-1, 2))
	other := formOf(2, ints(1, 2), ints(-1, -2))
	for _, c := range []struct {
		what string
		form impl.Form
		all  string
		want string
	}{
		{"the example", other, "10", "true true, false false"},
		{"the example, turned around", other, "01", "false true, false false"},
		{"the stage's move", either(), "01", "true true, true true"},
		{"for all, and then for some", either(), "10", "true true, false false"},
		{"none for all", either(), "00", "true true, false true"},
		{"all for all", either(), "11", "false true, false false"},
		{"none for all, and no model", never(), "00", "false true, false false"},
		{"all for all, and no model", never(), "11", "false true, false false"},
		{"none for all, false wins", same, "00", "true true, false true"},
		{"none for all, only true wins", formOf(2, ints(1)), "00", "true true, true true"},
		{"only false wins", formOf(2, ints(-1)), "01", "true true, false true"},
		{"both win", formOf(3, ints(1, 2), ints(-1, 3)), "000", "true true, false true"},
		{"for some first, and then for all", same, "01", "false true, false false"},
		{"no clauses, all for all", formOf(3), "111", "true true, false false"},
		{"no clauses, none for all", formOf(3), "000", "true true, false true"},
		{"a clause without literals", formOf(2, nil), "00", "false true, false false"},
		{"one letter for some", formOf(1, ints(1)), "0", "true true, true true"},
		{"one letter for all", formOf(1, ints(1)), "1", "false true, false false"},
		{"one letter for all, no clauses", formOf(1), "1", "true true, false false"},
		{"a letter that no clause has, for all", formOf(2, ints(2)), "10", "true true, false false"},
		{"a letter that one clause has, for all", formOf(2, ints(2)), "01", "false true, false false"},
		{"turns one after another", formOf(3, ints(1, 2), ints(-2, 3), ints(2, -3)), "010", "true true, true true"},
		{"the order of letters", formOf(3, ints(1, -3), ints(-1, 3)), "001", "false true, false false"},
		{"the order of letters, turned around", formOf(3, ints(1, -3), ints(-1, 3)), "100", "true true, false false"},
		{"all for all, all values", formOf(10), "1111111111", "true true, false false"},
		{"all for all but the last one", formOf(10, ints(9, 10), ints(-9, -10)), "1111111110", "true true, false false"},
		{"all for all but the first one", formOf(10, ints(1, 10), ints(1, -9)), "0111111111", "true true, true true"},
		{"too few", either(), "0", "false false, false false"},
		{"too many", either(), "000", "false false, false false"},
		{"none", formOf(1), "", "false false, false false"},
		{"none for no letters", formOf(0), "", "false false, false false"},
		{"eleven letters", formOf(11), "00000000000", "false false, false false"},
	} {
		wantText(t, "turns, "+c.what, turnsText(c.form, bools(c.all)), c.want)
	}
	for _, f := range wrongForms() {
		wantText(t, fmt.Sprintf("turns of %.99s", fmt.Sprint(f)), turnsText(f, make([]bool, max(0, min(20, f.Letters)))), "false false, false false")
	}
}
