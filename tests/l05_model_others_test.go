package tests

import (
	"fmt"
	"math/bits"
	"testing"

	"loop.example/g01346/impl"
)

// This file goes on with the model of chapter 5, for other forms, models of
// several kinds, and questions.

// signOf returns 1 or -1 where a clause has a letter or its opposite, and 0
// where it has none of both.
func signOf(clause []int64, letter int64) int64 {
	for _, literal := range clause {
		if literal == letter || literal == -letter {
			return literal / letter
		}
	}
	return 0
}

func modelResolve(letters int64, a, b []int64, letter int64) ([]int64, bool) {
	if signOf(a, letter)*signOf(b, letter) != -1 {
		return nil, false
	}
	clause := []int64{}
	for other := int64(1); other <= letters; other++ {
		one, two := signOf(a, other), signOf(b, other)
		switch {
		case other == letter:
		case one*two == -1:
			return nil, false
		case one != 0:
			clause = append(clause, one*other)
		case two != 0:
			clause = append(clause, two*other)
		}
	}
	return clause, true
}

func TestResolvedClausesAreThoseOfTheModel(t *testing.T) {
	resolved := 0
	for _, f := range manyForms(400) {
		for i, a := range f.Clauses {
			if i > 0 {
				b := f.Clauses[i-1]
				for letter := int64(1); letter <= f.Letters; letter++ {
					clause, ok := modelResolve(f.Letters, a, b, letter)
					wantText(t, fmt.Sprint("Resolve of ", a, b, letter), resolveText(f.Letters, a, b, letter), fmt.Sprint(clause, " ", ok))
					wantText(t, fmt.Sprint("Resolve of ", b, a, letter), resolveText(f.Letters, b, a, letter), fmt.Sprint(clause, " ", ok))
					if ok {
						resolved++
						checkResolved(t, f.Letters, a, b, clause)
					}
				}
			}
		}
	}
	if resolved < 500 {
		t.Errorf("%d clauses are resolved", resolved)
	}
}

// checkResolved wants a clause to hold by all values by which two others hold.
func checkResolved(t *testing.T, letters int64, a, b, clause []int64) {
	allValues(letters, func(values []bool) {
		if clauseHolds(a, values) && clauseHolds(b, values) && !clauseHolds(clause, values) {
			t.Errorf("Resolve of %v and %v: %v does not hold by %v", a, b, clause, values)
		}
	})
}

func modelLeave(f impl.Form, letter int64) impl.Form {
	left := impl.Form{Letters: f.Letters}
	for _, clause := range f.Clauses {
		if signOf(clause, letter) == 0 {
			left.Clauses = append(left.Clauses, clause)
		}
	}
	for _, a := range f.Clauses {
		for _, b := range f.Clauses {
			if clause, ok := modelResolve(f.Letters, a, b, letter); ok && signOf(a, letter) == 1 {
				left.Clauses = append(left.Clauses, clause)
			}
		}
	}
	return left
}

// TestLeftLettersAreThoseOfTheModel also wants the models of the other letters
// to be the same, each with both values of the letter.
func TestLeftLettersAreThoseOfTheModel(t *testing.T) {
	many := 0
	for i, f := range manyForms(800) {
		letter := 1 + int64(i/10)%f.Letters
		left, ok := impl.LeaveLetter(f, letter)
		what := fmt.Sprint("LeaveLetter of ", f, " and ", letter)
		wantText(t, what, formText(left, ok), formText(modelLeave(f, letter), true))
		var others []int64
		for other := int64(1); other <= f.Letters; other++ {
			if other != letter {
				others = append(others, other)
			}
		}
		count, _ := impl.CountOn(f, others)
		wantText(t, what+", models", fmt.Sprint(len(modelModels(left))), fmt.Sprint(2*count))
		if len(left.Clauses) > 48 {
			many++
		}
	}
	if many < 5 {
		t.Errorf("%d forms have more than most clauses", many)
	}
}

func TestThinFormsAreThoseOfTheModel(t *testing.T) {
	thinner := 0
	for _, f := range manyForms(800) {
		wanted := impl.Form{Letters: f.Letters}
	clauses:
		for i, clause := range f.Clauses {
			for k, part := range f.Clauses {
				shared := 0
				for _, literal := range part {
					if contains(clause, literal) {
						shared++
					}
				}
				if shared == len(part) && (len(part) < len(clause) || k < i) {
					continue clauses
				}
			}
			wanted.Clauses = append(wanted.Clauses, clause)
		}
		thin, ok := impl.ThinForm(f)
		wantText(t, fmt.Sprint("ThinForm of ", f), formText(thin, ok), formText(wanted, true))
		wantText(t, fmt.Sprint("models of the thin form of ", f), fmt.Sprint(modelModels(thin)), fmt.Sprint(modelModels(f)))
		if len(wanted.Clauses) < len(f.Clauses) {
			thinner++
		}
	}
	if thinner < 200 {
		t.Errorf("%d forms become thinner", thinner)
	}
}

func TestPureLiteralsAreThoseOfTheModel(t *testing.T) {
	for _, f := range manyForms(800) {
		var pure []int64
		for letter := int64(1); letter <= f.Letters; letter++ {
			plain, turned := false, false
			for _, clause := range f.Clauses {
				plain = plain || signOf(clause, letter) == 1
				turned = turned || signOf(clause, letter) == -1
			}
			if plain && !turned {
				pure = append(pure, letter)
			}
			if turned && !plain {
				pure = append(pure, -letter)
			}
		}
		told, ok := impl.PureIn(f)
		wantText(t, fmt.Sprint("PureIn ", f), fmt.Sprint(told, " ", ok), fmt.Sprint(pure, " true"))
	}
}

// TestGivenFormsAreThoseOfTheModel also wants the values with the given literals
// by which a form holds to be those by which what is left holds.
func TestGivenFormsAreThoseOfTheModel(t *testing.T) {
	state := sequence(20)
	for _, f := range manyForms(800) {
		given := someLiterals(&state, f.Letters)
		wanted := impl.Form{Letters: f.Letters}
		for _, clause := range f.Clauses {
			isTrue, left := false, []int64{}
			for _, literal := range clause {
				isTrue = isTrue || contains(given, literal)
				if !contains(given, -literal) {
					left = append(left, literal)
				}
			}
			if !isTrue {
				wanted.Clauses = append(wanted.Clauses, left)
			}
		}
		left, ok := impl.GiveForm(f, given)
		what := fmt.Sprint("GiveForm of ", f, " with ", given)
		wantText(t, what, formText(left, ok), formText(wanted, true))
		allValues(f.Letters, func(values []bool) {
			for _, literal := range given {
				values[max(literal, -literal)-1] = literal > 0
			}
			same := (countHolding(f.Clauses, values) == len(f.Clauses)) == (countHolding(left.Clauses, values) == len(left.Clauses))
			wantBool(t, what, same, true)
		})
	}
}

// modelSubsets visits all lists of so many letters from a first one on, those
// with lesser first letters first.
func modelSubsets(first, letters, count int64, before []int64, visit func(list []int64)) {
	if count == 0 {
		visit(before)
		return
	}
	for letter := first; letter <= letters; letter++ {
		modelSubsets(letter+1, letters, count-1, append(before[:len(before):len(before)], letter), visit)
	}
}

func TestAtMostFormsAreThoseOfTheModel(t *testing.T) {
	for letters := int64(1); letters <= 10; letters++ {
		for most := int64(0); most <= letters; most++ {
			wanted := impl.Form{Letters: letters}
			modelSubsets(1, letters, most+1, nil, func(list []int64) { wanted.Clauses = append(wanted.Clauses, opposites(list)) })
			f, ok := impl.AtMostForm(letters, most)
			what := fmt.Sprint("AtMostForm ", letters, " and ", most)
			if len(wanted.Clauses) > 48 {
				wantText(t, what, formText(f, ok), noForm)
				continue
			}
			wantText(t, what, formText(f, ok), formText(wanted, true))
			count := 0
			for number := range 1 << letters {
				if int64(bits.OnesCount(uint(number))) <= most {
					count++
				}
			}
			wantText(t, what+", models", countText(impl.CountModels(f)), fmt.Sprint(count, " true"))
		}
	}
}

// modelHorn makes letters true, again and again, where they must be.
func modelHorn(f impl.Form) string {
	for _, clause := range f.Clauses {
		plain := 0
		for _, literal := range clause {
			if literal > 0 {
				plain++
			}
		}
		if plain > 1 {
			return " false"
		}
	}
	values := make([]bool, f.Letters)
	for range f.Letters {
		for _, clause := range f.Clauses {
			for _, literal := range clause {
				if literal > 0 && !clauseHolds(clause, values) {
					values[literal-1] = true
				}
			}
		}
	}
	if countHolding(f.Clauses, values) < len(f.Clauses) {
		return " false"
	}
	return digitsText(values) + " true"
}

// TestHornModelsAreLeast also wants what is true in them to be true in all
// models.
func TestHornModelsAreLeast(t *testing.T) {
	found, later := 0, 0
	for _, f := range manyForms(1500) {
		horn, ok := impl.HornModel(f)
		what := fmt.Sprint("HornModel of ", f)
		wantText(t, what, modelText(horn, ok), modelHorn(f))
		if !ok {
			continue
		}
		found++
		trues := 0
		for _, model := range modelModels(f) {
			for i, value := range model {
				wantBool(t, what, value || !horn[i], true)
			}
		}
		for _, value := range horn {
			if value {
				trues++
			}
		}
		if trues > 1 {
			later++
		}
	}
	if found < 200 || later < 50 {
		t.Errorf("%d forms have a least model, and %d have several letters that are true in it", found, later)
	}
}

func TestPairModelsAreFirst(t *testing.T) {
	found, no := 0, 0
	for _, f := range manyForms(1500) {
		wanted := firstText(modelModels(f))
		pairs := true
		for _, clause := range f.Clauses {
			pairs = pairs && (len(clause) == 1 || len(clause) == 2)
		}
		if !pairs {
			wanted = " false"
			no++
		}
		pair, ok := impl.PairModel(f)
		wantText(t, fmt.Sprint("PairModel of ", f), modelText(pair, ok), wanted)
		if ok {
			found++
		}
	}
	if found < 100 || no < 100 {
		t.Errorf("%d forms of pairs have a model, and %d forms are none", found, no)
	}
}

func TestOddModelsAreThoseOfTheModel(t *testing.T) {
	state := sequence(21)
	found := 0
	for i := range 600 {
		letters := 1 + i%10
		var rows [][]int64
		var odd []bool
		for range state.below([]int{4, 8, 12, 49}[i/10%4]) {
			row := someClause(&state, letters, 0, letters)
			for k, literal := range row {
				row[k] = max(literal, -literal)
			}
			rows = append(rows, row)
			odd = append(odd, len(row) > 0 && state.below(2) == 0)
		}
		if i%3 > 0 { // values by which all rows hold
			values := state.below(1 << letters)
			for k, row := range rows {
				odd[k] = false
				for _, letter := range row {
					odd[k] = odd[k] != (values>>(letter-1)&1 == 1)
				}
			}
		}
		wanted := " false"
		allValues(int64(letters), func(values []bool) {
			for k, row := range rows {
				count := 0
				for _, letter := range row {
					if values[letter-1] {
						count++
					}
				}
				if count%2 == 1 != odd[k] {
					return
				}
			}
			if wanted == " false" {
				wanted = digitsText(values) + " true"
				found++
			}
		})
		values, ok := impl.OddModel(int64(letters), rows, odd)
		wantText(t, fmt.Sprint("OddModel of ", letters, rows, odd), modelText(values, ok), wanted)
	}
	if found < 300 || found == 600 {
		t.Errorf("%d rows have values", found)
	}
}

// modelTurns reports whether a form holds in turns, where the values of the
// first letters are known.
func modelTurns(f impl.Form, all, values []bool) bool {
	i := len(values)
	if i == len(all) {
		return countHolding(f.Clauses, values) == len(f.Clauses)
	}
	no := modelTurns(f, all, append(values[:i:i], false))
	yes := modelTurns(f, all, append(values[:i:i], true))
	if all[i] {
		return no && yes
	}
	return no || yes
}

func TestTurnsAreThoseOfTheModel(t *testing.T) {
	state := sequence(22)
	hold, moves := 0, map[bool]int{}
	for _, f := range manyForms(1000) {
		all := make([]bool, f.Letters)
		for i := range all {
			all[i] = state.below(4) == 0
		}
		holds, ok := impl.AllSome(f, all)
		what := fmt.Sprint(" of ", f, " and ", digitsText(all))
		wantText(t, "AllSome"+what, fmt.Sprint(holds, " ", ok), fmt.Sprint(modelTurns(f, all, nil), " true"))
		wanted := "false false"
		if modelTurns(f, all, nil) && !all[0] {
			wanted = fmt.Sprint(!modelTurns(f, all, []bool{false}), " true")
		}
		move, ok := impl.FirstMove(f, all)
		wantText(t, "FirstMove"+what, fmt.Sprint(move, " ", ok), wanted)
		if ok {
			moves[move]++
		}
		if holds {
			hold++
		}
	}
	if hold < 100 || hold > 900 || moves[false] < 50 || moves[true] < 20 {
		t.Errorf("%d questions hold, with the moves %v", hold, moves)
	}
}

// TestAnyNumberOfWorkersCountsTheSameModels wants what CountModels tells of each
// form, for all numbers of workers.
func TestAnyNumberOfWorkersCountsTheSameModels(t *testing.T) {
	forms := manyForms(400)
	for from := 0; from < len(forms); from += 8 {
		some := forms[from : from+1+from/8%8]
		var counts []int64
		for _, f := range some {
			counts = append(counts, int64(len(modelModels(f))))
		}
		for workers := range int64(8) {
			wantText(t, fmt.Sprint("FormsShared of ", some, " with workers ", workers+1), formsText(some, workers+1), fmt.Sprint(counts, " true"))
		}
	}
}
