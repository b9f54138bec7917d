package tests

import (
	"fmt"
	"testing"

	"loop.example/g01346/impl"
)

// This file holds a model of chapter 5 that is written apart from the program,
// straight from the document's text, and looks at all values of forms.

// someClause returns a clause of so many literals.
func someClause(state *sequence, letters, least, most int) []int64 {
	clause := []int64{}
	left := min(letters, least+state.below(most-least+1))
	for letter := 1; letter <= letters; letter++ {
		if state.below(letters-letter+1) < left {
			clause = append(clause, int64(letter*(1-2*state.below(2))))
			left--
		}
	}
	return clause
}

// changedClause returns a clause from which literals are taken, or in which some
// have the other sign.
func changedClause(state *sequence, clause []int64) []int64 {
	changed := []int64{}
	for _, literal := range clause {
		switch state.below(6) {
		case 0:
		case 1:
			changed = append(changed, -literal)
		default:
			changed = append(changed, literal)
		}
	}
	return changed
}

// manyForms returns forms of all numbers of letters and of clauses, and of
// several kinds: of short and of long clauses, of one sign mostly, with clauses
// that are equal, or parts of others, and with some without literals.
func manyForms(count int) []impl.Form {
	state := sequence(14)
	var list []impl.Form
	for i := range count {
		letters := 1 + i%10
		f := impl.Form{Letters: int64(letters)}
		least, most := []int{1, 3, 1, 2, 3}[i/10%5], []int{2, 3, 4, 3, 10}[i/10%5]
		size := state.below([]int{4, 9, 18, 49}[i/50%4])
		for len(f.Clauses) < size {
			clause := someClause(&state, letters, least, most)
			switch state.below(12) {
			case 0:
				if len(f.Clauses) > 0 {
					clause = changedClause(&state, f.Clauses[state.below(len(f.Clauses))])
				}
			case 1:
				if len(f.Clauses) > 0 {
					clause = append([]int64{}, f.Clauses[state.below(len(f.Clauses))]...)
				}
			}
			if len(clause) == 0 && state.below(20) > 0 {
				continue
			}
			f.Clauses = append(f.Clauses, clause)
		}
		if i%3 == 0 {
			makeHorn(&state, f)
		}
		list = append(list, f)
	}
	return list
}

// makeHorn leaves at most one letter that is not an opposite in each clause, and
// makes some clauses that letter alone.
func makeHorn(state *sequence, f impl.Form) {
	for i, clause := range f.Clauses {
		if len(clause) == 0 {
			continue
		}
		stays := state.below(len(clause))
		for k, literal := range clause {
			clause[k] = -max(literal, -literal)
		}
		if state.below(4) > 0 {
			clause[stays] = -clause[stays]
		}
		if state.below(5) == 0 {
			f.Clauses[i] = clause[stays : stays+1]
		}
	}
}

// someLiterals returns literals of different letters, in any order.
func someLiterals(state *sequence, letters int64) []int64 {
	list := numbersTo(letters)
	for i := range list {
		k := i + state.below(len(list)-i)
		list[i], list[k] = list[k], list[i]
	}
	list = list[:state.below(len(list)+1)]
	for i, letter := range list {
		list[i] = (letter + 1) * int64(1-2*state.below(2))
	}
	return list
}

// allValues visits all values of letters, false before true.
func allValues(letters int64, visit func(values []bool)) {
	values := make([]bool, letters)
	var step func(i int)
	step = func(i int) {
		if i == len(values) {
			visit(values)
			return
		}
		for _, value := range []bool{false, true} {
			values[i] = value
			step(i + 1)
		}
	}
	step(0)
}

// clauseHolds reports whether a clause has a literal that is true.
func clauseHolds(clause []int64, values []bool) bool {
	for _, literal := range clause {
		if literal > 0 && values[literal-1] || literal < 0 && !values[-literal-1] {
			return true
		}
	}
	return false
}

func countHolding(clauses [][]int64, values []bool) int {
	count := 0
	for _, clause := range clauses {
		if clauseHolds(clause, values) {
			count++
		}
	}
	return count
}

// modelModels returns all models, in ascending order.
func modelModels(f impl.Form) [][]bool {
	var models [][]bool
	allValues(f.Letters, func(values []bool) {
		if countHolding(f.Clauses, values) == len(f.Clauses) {
			models = append(models, append([]bool(nil), values...))
		}
	})
	return models
}

func firstText(models [][]bool) string {
	if len(models) == 0 {
		return " false"
	}
	return digitsText(models[0]) + " true"
}

func TestModelsAreThoseOfTheModel(t *testing.T) {
	state := sequence(15)
	without, all := 0, 0
	for _, f := range manyForms(600) {
		what := fmt.Sprint(" of ", f)
		models := modelModels(f)
		first, ok := impl.FirstModel(f)
		wantText(t, "FirstModel"+what, modelText(first, ok), firstText(models))
		wantText(t, "CountModels"+what, countText(impl.CountModels(f)), fmt.Sprint(len(models), " true"))
		var list []int64
		different := map[string]bool{}
		for letter := int64(1); letter <= f.Letters; letter++ {
			if state.below(2) == 0 {
				list = append(list, letter)
			}
		}
		for _, model := range models {
			values := ""
			for _, letter := range list {
				values += digitsText(model[letter-1 : letter])
			}
			different[values] = true
		}
		wantText(t, fmt.Sprint("CountOn", what, " and ", list), countText(impl.CountOn(f, list)), fmt.Sprint(len(different), " true"))
		values := bools(fmt.Sprintf("%0*b", f.Letters, state.below(1<<f.Letters)))
		wantText(t, fmt.Sprint("HoldsBy", what, " and ", values), holdsText(f, values), fmt.Sprint(countHolding(f.Clauses, values) == len(f.Clauses), " true"))
		if len(models) == 0 {
			without++
		}
		if len(models) == 1<<f.Letters {
			all++
		}
	}
	if without < 100 || without > 400 || all < 10 {
		t.Errorf("%d forms have no model, and %d hold by all values", without, all)
	}
}

func TestMostTrueIsThatOfTheModel(t *testing.T) {
	for _, f := range manyForms(600) {
		most, first := -1, ""
		allValues(f.Letters, func(values []bool) {
			if count := countHolding(f.Clauses, values); count > most {
				most, first = count, digitsText(values)
			}
		})
		wantText(t, fmt.Sprint("MostTrue of ", f), mostText(f), fmt.Sprint(most, " ", first, " true"))
	}
}

// modelKnown is what the model finds of units.
type modelKnown struct {
	order  []int64
	why    map[int64]int // the index of the clause that made a literal known
	broken int           // the index of the clause that is broken, or -1
}

func (m modelKnown) text() string { return fmt.Sprint(m.order, " ", m.broken >= 0, " true") }

// modelUnits counts, again and again, the literals of each clause.
func modelUnits(clauses [][]int64, given []int64) modelKnown {
	m := modelKnown{append([]int64(nil), given...), map[int64]int{}, -1}
	known := map[int64]bool{}
	for _, literal := range given {
		known[literal] = true
	}
	for {
		next := -1
		for i, clause := range clauses {
			opposite, held := 0, false
			for _, literal := range clause {
				held = held || known[literal]
				if known[-literal] {
					opposite++
				}
			}
			if opposite == len(clause) {
				m.broken = i
				return m
			}
			if next < 0 && !held && opposite+1 == len(clause) {
				next = i
			}
		}
		if next < 0 {
			return m
		}
		for _, literal := range clauses[next] {
			if !known[-literal] {
				known[literal] = true
				m.order = append(m.order, literal)
				m.why[literal] = next
				break
			}
		}
	}
}

func TestUnitsAreThoseOfTheModel(t *testing.T) {
	state := sequence(16)
	broken, found := 0, 0
	for _, f := range manyForms(1000) {
		for range 3 {
			given := someLiterals(&state, f.Letters)
			m := modelUnits(f.Clauses, given)
			wantText(t, fmt.Sprint("UnitsOf ", f, " with ", given), unitsText(f, given), m.text())
			if m.broken >= 0 {
				broken++
			} else if len(m.order) > len(given) {
				found++
			}
		}
	}
	if broken < 300 || found < 300 {
		t.Errorf("%d forms are broken, and for %d others something becomes known", broken, found)
	}
}

// modelLearn looks at literals, one after another, as the text tells.
func modelLearn(f impl.Form, chosen []int64) string {
	m := modelUnits(f.Clauses, chosen)
	if m.broken < 0 {
		return "[] false"
	}
	queue := append([]int64(nil), f.Clauses[m.broken]...)
	looked := map[int64]bool{}
	for len(queue) > 0 {
		literal := queue[0]
		queue = queue[1:]
		if looked[literal] {
			continue
		}
		looked[literal] = true
		if why, ok := m.why[-literal]; ok {
			for _, other := range f.Clauses[why] {
				if other != -literal {
					queue = append(queue, other)
				}
			}
		}
	}
	var clause []int64
	for letter := int64(1); letter <= f.Letters; letter++ {
		for _, literal := range []int64{letter, -letter} {
			if looked[literal] && contains(chosen, -literal) {
				clause = append(clause, literal)
			}
		}
	}
	return fmt.Sprint(clause, " true")
}

func opposites(literals []int64) []int64 {
	var list []int64
	for _, literal := range literals {
		list = append(list, -literal)
	}
	return list
}

// TestLearnedClausesHoldInAllModels is about promise 6: what is learned is told
// by the form, also by units alone, and has opposites of chosen literals alone.
func TestLearnedClausesHoldInAllModels(t *testing.T) {
	state := sequence(17)
	learned, less := 0, 0
	for _, f := range manyForms(1000) {
		models := modelModels(f)
		for range 3 {
			chosen := someLiterals(&state, f.Letters)
			what := fmt.Sprint("LearnFrom ", f, " with ", chosen)
			wantText(t, what, learnText(f, chosen), modelLearn(f, chosen))
			clause, ok := impl.LearnFrom(f, chosen)
			if !ok {
				continue
			}
			for _, model := range models {
				wantBool(t, fmt.Sprint(what, " in the model ", model), clauseHolds(clause, model), true)
			}
			for _, literal := range clause {
				wantBool(t, fmt.Sprint(what, " has ", literal), contains(chosen, -literal), true)
			}
			wantBool(t, what+" is a clause", impl.IsClause(f.Letters, clause), true)
			_, breaks, _ := impl.UnitsOf(f, opposites(clause))
			wantBool(t, what+" follows", breaks, true)
			if len(models) > 0 {
				learned++
			}
			if len(clause) < len(chosen) {
				less++
			}
		}
	}
	if learned < 200 || less < 200 {
		t.Errorf("%d clauses are learned from forms with models, and %d have less than all that is chosen", learned, less)
	}
}

// modelFollows reports whether a clause follows from others.
func modelFollows(clauses [][]int64, clause []int64) bool {
	return modelUnits(clauses, opposites(clause)).broken >= 0
}

func modelIsProof(f impl.Form, proof [][]int64) bool {
	if len(proof) == 0 || len(proof) > 128 || len(proof[len(proof)-1]) != 0 {
		return false
	}
	for i, clause := range proof {
		if !modelFollows(append(append([][]int64(nil), f.Clauses...), proof[:i]...), clause) {
			return false
		}
	}
	return true
}

// modelProof puts clauses to a proof as the text tells.
func modelProof(f impl.Form, d []int64) [][]int64 {
	m := modelUnits(f.Clauses, d)
	end := append([]int64{}, opposites(d)...)
	if m.broken >= 0 {
		return [][]int64{end}
	}
	letter := int64(1)
	for contains(m.order, letter) || contains(m.order, -letter) {
		letter++
	}
	no := modelProof(f, append(append([]int64(nil), d...), -letter))
	yes := modelProof(f, append(append([]int64(nil), d...), letter))
	return append(append(no, yes...), end)
}

// TestThereIsAProofJustIfThereIsNoModel is about promise 6.
func TestThereIsAProofJustIfThereIsNoModel(t *testing.T) {
	proofs, long, tooLong := 0, 0, 0
	for _, f := range append(manyForms(1000), lateForms()...) {
		models := modelModels(f)
		proof, ok := impl.ProveNo(f)
		what := fmt.Sprint("ProveNo of ", f)
		if len(models) > 0 {
			wantText(t, what, fmt.Sprint(proof, " ", ok), "[] false")
			wantBool(t, what+", the empty clause", impl.IsProof(f, [][]int64{{}}), false)
			continue
		}
		wanted := modelProof(f, nil)
		if len(wanted) > 128 {
			wantText(t, what, fmt.Sprint(proof, " ", ok), "[] false")
			tooLong++
			continue
		}
		wantText(t, what, fmt.Sprint(proof, " ", ok), fmt.Sprint(wanted, " true"))
		wantBool(t, what+" is a proof", impl.IsProof(f, proof) && modelIsProof(f, proof), true)
		proofs++
		if len(proof) > 10 {
			long++
		}
	}
	if proofs < 200 || long < 20 || tooLong < 3 {
		t.Errorf("%d proofs, %d of them long, and %d too long", proofs, long, tooLong)
	}
}

// lateForms are forms whose proofs are long, with some clauses more.
func lateForms() []impl.Form {
	state := sequence(18)
	var list []impl.Form
	for i := range 40 {
		f := lateForm(int64(4 + i%7))
		for range state.below(12) {
			f.Clauses = append(f.Clauses, someClause(&state, int(f.Letters), 3, 4))
		}
		list = append(list, f, longForm())
	}
	return list
}

// TestChangedProofsAreCheckedLineByLine wants what the model tells of proofs
// that are cut, turned around, or changed in a clause, and of any clauses.
func TestChangedProofsAreCheckedLineByLine(t *testing.T) {
	state := sequence(19)
	still, no := 0, 0
	for _, f := range append(manyForms(600), lateForms()[:20]...) {
		proof, _ := impl.ProveNo(f)
		for range 6 {
			changed := append([][]int64(nil), proof...)
			for range 1 + state.below(3) {
				changed = changedProof(&state, f, changed)
			}
			is := modelIsProof(f, changed)
			wantBool(t, fmt.Sprint("IsProof of ", f, " and ", changed), impl.IsProof(f, changed), is)
			if is {
				wantText(t, fmt.Sprint("models of ", f, " with the proof ", changed), countText(impl.CountModels(f)), "0 true")
				still++
			} else if len(proof) > 0 {
				no++
			}
		}
	}
	if still < 200 || no < 200 {
		t.Errorf("%d changed proofs are proofs, and %d are not", still, no)
	}
}

func changedProof(state *sequence, f impl.Form, proof [][]int64) [][]int64 {
	if len(proof) == 0 {
		return [][]int64{someClause(state, int(f.Letters), 1, 2), {}}
	}
	i := state.below(len(proof))
	switch state.below(5) {
	case 0:
		return append(append([][]int64(nil), proof[:i]...), proof[i+1:]...)
	case 1:
		return proof[:i]
	case 2:
		changed := append([][]int64(nil), proof...)
		changed[i] = changedClause(state, proof[i])
		return changed
	case 3:
		k := state.below(len(proof))
		changed := append([][]int64(nil), proof...)
		changed[i], changed[k] = proof[k], proof[i]
		return changed
	}
	return append(append(append([][]int64(nil), proof[:i]...), someClause(state, int(f.Letters), 1, int(f.Letters))), proof[i:]...)
}

// withoutClause returns a form without the clauses that are out.
func withoutClauses(f impl.Form, out map[int]bool) impl.Form {
	left := impl.Form{Letters: f.Letters}
	for i, clause := range f.Clauses {
		if !out[i] {
			left.Clauses = append(left.Clauses, clause)
		}
	}
	return left
}

func modelCore(f impl.Form) string {
	if len(modelModels(f)) > 0 {
		return "[] false"
	}
	out := map[int]bool{}
	var core []int64
	for i := range f.Clauses {
		out[i] = true
		if len(modelModels(withoutClauses(f, out))) > 0 {
			out[i] = false
			core = append(core, int64(i))
		}
	}
	return fmt.Sprint(core, " true")
}

func TestCoresAreThoseOfTheModel(t *testing.T) {
	cores := 0
	for i, f := range manyForms(1500) {
		if f.Letters > 7 && i%5 > 0 {
			continue
		}
		wantText(t, fmt.Sprint("CoreOf ", f), coreText(f), modelCore(f))
		core, ok := impl.CoreOf(f)
		if !ok {
			continue
		}
		if len(core) > 3 {
			cores++
		}
		kept := map[int]bool{}
		for _, k := range core {
			kept[int(k)] = true
		}
		out := map[int]bool{}
		for k := range f.Clauses {
			out[k] = !kept[k]
		}
		wantText(t, fmt.Sprint("models of the core of ", f), countText(impl.CountModels(withoutClauses(f, out))), "0 true")
		for _, k := range core {
			out[int(k)] = true
			count, _ := impl.CountModels(withoutClauses(f, out))
			wantBool(t, fmt.Sprint("models of the core of ", f, " without ", k), count > 0, true)
			out[int(k)] = false
		}
	}
	if cores < 20 {
		t.Errorf("%d cores have more than 3 clauses", cores)
	}
}
