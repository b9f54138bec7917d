package tests

import (
	"fmt"
	"math"
	"testing"

	"loop.example/g01346/impl"
)

// This file is about promise 1 for chapter 5: every function returns for all
// arguments, modifies none of them, returns equal results for equal ones, and
// zero values where it fails.

// formArguments are the arguments besides a form.
type formArguments struct {
	list           []int64
	values         []bool
	lists          [][]int64
	letter, number int64
}

func (s formArguments) text() string { return fmt.Sprintf("%.999s", fmt.Sprintf("%+v", s)) }

func outcomesOfForm(f impl.Form, s formArguments) []outcome {
	list := []outcome{saysBool("ValidForm", impl.ValidForm(f)), saysBool("SameForm", impl.SameForm(f, copyForm(f))), saysBool("IsProof", impl.IsProof(f, s.lists))}
	add := func(name string, ok bool, told ...any) { list = append(list, says(name, ok, told...)) }
	holds, ok := impl.HoldsBy(f, s.values)
	add("HoldsBy", ok, holds)
	known, breaks, ok := impl.UnitsOf(f, s.list)
	add("UnitsOf", ok, known, breaks)
	first, ok := impl.FirstModel(f)
	add("FirstModel", ok, first)
	count, ok := impl.CountModels(f)
	add("CountModels", ok, count)
	some, ok := impl.CountOn(f, s.list)
	add("CountOn", ok, some)
	shared, ok := impl.FormsShared([]impl.Form{f, either(), f}, s.number)
	add("FormsShared", ok, shared)
	left, ok := impl.LeaveLetter(f, s.letter)
	add("LeaveLetter", ok, left)
	thin, ok := impl.ThinForm(f)
	add("ThinForm", ok, thin)
	pure, ok := impl.PureIn(f)
	add("PureIn", ok, pure)
	given, ok := impl.GiveForm(f, s.list)
	add("GiveForm", ok, given)
	learned, ok := impl.LearnFrom(f, s.list)
	add("LearnFrom", ok, learned)
	proof, ok := impl.ProveNo(f)
	add("ProveNo", ok, proof)
	core, ok := impl.CoreOf(f)
	add("CoreOf", ok, core)
	most, values, ok := impl.MostTrue(f)
	add("MostTrue", ok, most, values)
	horn, ok := impl.HornModel(f)
	add("HornModel", ok, horn)
	pair, ok := impl.PairModel(f)
	add("PairModel", ok, pair)
	turns, ok := impl.AllSome(f, s.values)
	add("AllSome", ok, turns)
	move, ok := impl.FirstMove(f, s.values)
	add("FirstMove", ok, move)
	return list
}

// outcomesOfLists are those of the functions that take no form.
func outcomesOfLists(letters, most int64, a, b []int64, rows [][]int64, odd []bool) []outcome {
	resolved, one := impl.Resolve(letters, a, b, most)
	form, two := impl.AtMostForm(letters, most)
	values, three := impl.OddModel(letters, rows, odd)
	return []outcome{saysBool("IsClause", impl.IsClause(letters, a)), says("Resolve", one, resolved), says("AtMostForm", two, form), says("OddModel", three, values)}
}

// keptForm holds a form whose clauses have room behind them, as the list of them
// has.
type keptForm struct {
	form    impl.Form
	clauses []kept[int64]
	all     kept[[]int64]
}

func keepForm(f impl.Form) keptForm {
	k := keptForm{form: f}
	var clauses [][]int64
	for _, clause := range f.Clauses {
		k.clauses = append(k.clauses, keep(clause, 77))
		clauses = append(clauses, k.clauses[len(k.clauses)-1].list)
	}
	k.all = keep(clauses, ints(88))
	k.form.Clauses = k.all.list
	return k
}

func (k keptForm) is(t *testing.T, what string) {
	t.Helper()
	k.all.is(t, what)
	for _, clause := range k.clauses {
		clause.is(t, what)
	}
}

func edgeNumbersOfForms() []int64 {
	return []int64{0, 1, 2, 3, 7, 8, 9, 10, 11, 47, 48, 49, 127, 128, 129, -1, -2, -10, -11, 1 << 32, 1<<32 + 1, math.MaxInt64, math.MinInt64}
}

// edgeListsOfForms are lists of all kinds, those of given literals, clauses and
// letters among them.
func edgeListsOfForms() [][]int64 {
	lists := append(wrongGiven(), nil, ints(1), ints(-1), ints(2, 1), ints(1, 2), ints(-2, -1), ints(1, 2, 3), ints(-1, -2, -3), ints(10), ints(-10), ints(1, 2, 3, 4, 5, 6, 7, 8, 9, 10))
	for _, c := range wrongClauses() {
		lists = append(lists, c.clause)
	}
	for _, n := range edgeNumbersOfForms() {
		lists = append(lists, ints(n), ints(n, 1), ints(1, n), ints(n, n))
	}
	return lists
}

func edgeValues() [][]bool {
	var list [][]bool
	for _, n := range []int{0, 1, 2, 3, 9, 10, 11, 5000} {
		list = append(list, make([]bool, n), repeat(n, true))
	}
	return list
}

func TestFunctionsOfFormsAlwaysReturn(t *testing.T) {
	state := sequence(23)
	lists, values, numbers := edgeListsOfForms(), edgeValues(), edgeNumbersOfForms()
	forms := append(append(append(rightForms(), wrongForms()...), manyForms(400)...), lateForm(10), longForm(), impl.Form{Letters: 2, Clauses: [][]int64{}})
	for _, f := range forms {
		k := keepForm(f)
		for range 3 {
			list := keep(lists[state.below(len(lists))], 78)
			truth := keep(values[state.below(len(values))], true)
			if impl.ValidForm(f) && state.below(3) > 0 {
				list = keep(someLiterals(&state, f.Letters), 78)
				truth = keep(bools(fmt.Sprintf("%0*b", f.Letters, state.below(1<<f.Letters))), true)
			}
			proof, _ := impl.ProveNo(f)
			if state.below(3) == 0 || len(proof) == 0 {
				proof = [][]int64{lists[state.below(len(lists))], {}}
			}
			lines := keepForm(impl.Form{Clauses: proof})
			s := formArguments{list.list, truth.list, lines.form.Clauses, numbers[state.below(len(numbers))], numbers[state.below(len(numbers))]}
			if state.below(2) == 0 {
				s.letter, s.number = int64(1+state.below(10)), int64(1+state.below(8))
			}
			first, again := outcomesOfForm(k.form, s), outcomesOfForm(k.form, s)
			checkOutcomes(t, fmt.Sprintf("%.999s at %s", fmt.Sprint(f), s.text()), first, again)
			list.is(t, "a function of forms")
			truth.is(t, "a function of forms")
			lines.is(t, "a function of forms")
		}
		k.is(t, "a function of forms")
	}
}

func TestFunctionsOfClausesAlwaysReturn(t *testing.T) {
	state := sequence(24)
	lists, values, numbers := edgeListsOfForms(), edgeValues(), edgeNumbersOfForms()
	for _, letters := range numbers {
		for range 60 {
			a, b := keep(lists[state.below(len(lists))], 77), keep(lists[state.below(len(lists))], 78)
			rows := [][]int64{lists[state.below(len(lists))], lists[state.below(len(lists))]}
			if impl.IsClause(letters, ints(1)) && state.below(2) == 0 {
				a, b = keep(someClause(&state, int(letters), 1, 10), 77), keep(someClause(&state, int(letters), 1, 10), 78)
				rows = [][]int64{numbersTo(letters + 1)[1:], nil}
			}
			kept := keepForm(impl.Form{Clauses: rows})
			odd := keep(values[state.below(len(values))], true)
			most := numbers[state.below(len(numbers))]
			call := func() []outcome {
				return outcomesOfLists(letters, most, a.list, b.list, kept.form.Clauses, odd.list)
			}
			checkOutcomes(t, fmt.Sprintf("%d, %d, %.300s", letters, most, fmt.Sprint(a.list, b.list, rows, len(odd.list))), call(), call())
			a.is(t, "a function of clauses")
			b.is(t, "a function of clauses")
			odd.is(t, "a function of clauses")
			kept.is(t, "a function of clauses")
		}
	}
	long := keepForm(impl.Form{Clauses: repeat(5000, ints(1))})
	wantBool(t, "OddModel of far too many rows", outcomesOfLists(1, 1, nil, nil, long.form.Clauses, make([]bool, 5000))[3].ok, false)
	long.is(t, "OddModel")
}

// TestAllFunctionsOfFormsSucceed wants that none fails where all arguments are as
// they must be, with numbers at the limits; those that want a model, or none,
// are told.
func TestAllFunctionsOfFormsSucceed(t *testing.T) {
	wantsModel := map[string]bool{"FirstModel": true, "HornModel": true, "PairModel": true, "FirstMove": true}
	wantsNone := map[string]bool{"IsProof": true, "LearnFrom": true, "ProveNo": true, "CoreOf": true}
	for _, c := range []struct {
		form  impl.Form
		s     formArguments
		model bool
	}{
		{formOf(1), formArguments{ints(1), bools("0"), lists(nil), 1, 1}, true},
		{formOf(10, repeat(48, ints(-9, 10))...), formArguments{ints(1, 10), make([]bool, 10), lists(nil), 10, 8}, true},
		{formOf(1, ints(1), ints(-1)), formArguments{ints(1), bools("0"), lists(nil), 1, 1}, false},
		{formOf(10, repeat(48, []int64(nil))...), formArguments{ints(1, 10), make([]bool, 10), lists(nil), 10, 8}, false},
	} {
		for _, o := range outcomesOfForm(c.form, c.s) {
			wantBool(t, fmt.Sprint(o.name, " of ", c), o.ok, !(wantsNone[o.name] && c.model) && !(wantsModel[o.name] && !c.model))
		}
	}
}

// allToldOfForms calls all functions of chapter 5 that return slices of integers,
// or lists of them; models is a form with models, and none one without.
func allToldOfForms(models, none impl.Form, given, letters []int64, rows [][]int64) []told {
	var all []told
	add := func(name string, list []int64) { all = append(all, told{name, list}) }
	addAll := func(name string, clauses [][]int64) {
		for _, clause := range clauses {
			add(name, clause)
		}
	}
	known, _, _ := impl.UnitsOf(models, given)
	add("UnitsOf", known)
	same, _, _ := impl.UnitsOf(formOf(2), given)
	add("UnitsOf, nothing new", same)
	shared, _ := impl.FormsShared([]impl.Form{models, none}, 2)
	add("FormsShared", shared)
	resolved, _ := impl.Resolve(3, rows[0], rows[1], 1)
	add("Resolve", resolved)
	left, _ := impl.LeaveLetter(models, 1)
	addAll("LeaveLetter", left.Clauses)
	thin, _ := impl.ThinForm(models)
	addAll("ThinForm", thin.Clauses)
	pure, _ := impl.PureIn(models)
	add("PureIn", pure)
	less, _ := impl.GiveForm(models, letters)
	addAll("GiveForm", less.Clauses)
	learned, _ := impl.LearnFrom(none, given)
	add("LearnFrom", learned)
	proof, _ := impl.ProveNo(none)
	addAll("ProveNo", proof[:len(proof)-1])
	core, _ := impl.CoreOf(none)
	add("CoreOf", core)
	most, _ := impl.AtMostForm(3, 1)
	addAll("AtMostForm", most.Clauses)
	return all
}

func TestResultsOfFormsShareNothing(t *testing.T) {
	models, none := formOf(3, ints(1, 2), ints(-1, 3), ints(2, 3), ints(-2, 3)), pairs()
	given, letters, rows := ints(-1), ints(-3), lists(ints(1, 2), ints(-1, 3))
	call := func() []told { return allToldOfForms(models, none, given, letters, rows) }
	all := call()
	arguments := func() string { return fmt.Sprint(models, none, given, letters, rows) }
	first := fmt.Sprint(all)
	if len(all) != 23 {
		t.Errorf("%d slices", len(all))
	}
	wantUnshared(t, all, arguments)
	wantText(t, "results of the same again", fmt.Sprint(call()), first)
}

// TestListsOfClausesShareNothing overwrites lists of clauses, and the room
// behind them, and wants the arguments unchanged.
func TestListsOfClausesShareNothing(t *testing.T) {
	models, none := formOf(3, ints(1, 2), ints(-1, 3), ints(2, 3)), pairs()
	arguments := func() string { return fmt.Sprint(models, none) }
	was := arguments()
	left, _ := impl.LeaveLetter(models, 1)
	thin, _ := impl.ThinForm(models)
	less, _ := impl.GiveForm(models, ints(-3))
	most, _ := impl.AtMostForm(3, 1)
	proof, _ := impl.ProveNo(none)
	for _, clauses := range [][][]int64{left.Clauses, thin.Clauses, less.Clauses, most.Clauses, proof} {
		overwrite(clauses, ints(99))
		wantText(t, "the arguments", arguments(), was)
	}
	values := [][]bool{}
	first, _ := impl.FirstModel(models)
	_, best, _ := impl.MostTrue(models)
	horn, _ := impl.HornModel(formOf(2, ints(1)))
	pair, _ := impl.PairModel(models)
	odd, _ := impl.OddModel(2, lists(ints(1)), []bool{true})
	values = append(values, first, best, horn, pair, odd)
	for i := range values {
		before := fmt.Sprint(values[:i], values[i+1:])
		overwrite(values[i], true)
		wantText(t, "other values", fmt.Sprint(values[:i], values[i+1:]), before)
	}
	again, _ := impl.FirstModel(models)
	wantText(t, "the first model again", digitsText(again), "010")
}
