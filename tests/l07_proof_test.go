package tests

import (
	"fmt"
	"slices"
	"testing"

	"loop.example/g01346/impl"
)

// This file is about promise 8: whole plans keep their rows and gain no less than
// others, choices are all different, and cases are loaded as they were stored.

// integerRows are rows of small integers, with gains of such.
type integerRows struct {
	rows          [][]int64
	bounds, gains []int64
}

// narrow returns them as rows.
func (m integerRows) narrow() impl.Rows {
	r := impl.Rows{Vars: int64(len(m.gains))}
	for i, row := range m.rows {
		for _, n := range row {
			r.Numbers = append(r.Numbers, float32(n))
		}
		r.Bounds = append(r.Bounds, float32(m.bounds[i]))
	}
	for _, n := range m.gains {
		r.Gains = append(r.Gains, float32(n))
	}
	return r
}

func integerDot(a, b []int64) int64 {
	sum := int64(0)
	for i := range a {
		sum += a[i] * b[i]
	}
	return sum
}

// keeps reports whether integers from 0 to top keep all rows.
func (m integerRows) keeps(x []int64, top int64) bool {
	for _, n := range x {
		if n < 0 || n > top {
			return false
		}
	}
	for i, row := range m.rows {
		if integerDot(row, x) > m.bounds[i] {
			return false
		}
	}
	return true
}

// plans returns all plans of integers from 0 to top.
func (m integerRows) plans(top int64) [][]int64 {
	var plans [][]int64
	digits, limits := make([]int, len(m.gains)), repeat(len(m.gains), int(top)+1)
	for more := true; more; more = countUp(digits, limits) {
		var x []int64
		for _, digit := range digits {
			x = append(x, int64(digit))
		}
		if m.keeps(x, top) {
			plans = append(plans, x)
		}
	}
	return plans
}

func manyIntegerRows(count int) []integerRows {
	state := sequence(66)
	var list []integerRows
	for i := range count {
		vars, least := 1+i%4, []int{0, -2, -5}[i/4%3]
		var m integerRows
		for range 1 + state.below(4) {
			var row []int64
			for range vars {
				row = append(row, int64(least+state.below(6)))
			}
			m.rows, m.bounds = append(m.rows, row), append(m.bounds, int64(state.below(20)))
		}
		for range vars {
			m.gains = append(m.gains, int64(state.below(9)-2))
		}
		list = append(list, m)
	}
	return list
}

func TestWholePlansGainNoLessThanOthers(t *testing.T) {
	for i, m := range manyIntegerRows(400) {
		top := int64(1 + i%5)
		what := fmt.Sprint(m, " up to ", top)
		best, gain, ok := impl.WholePlan(m.narrow(), top)
		if !ok || !m.keeps(best, top) || gain != float32(integerDot(m.gains, best)) {
			t.Fatalf("WholePlan of %s: got %v, %v, %v", what, best, gain, ok)
		}
		plans := m.plans(top)
		for _, x := range plans {
			other := integerDot(m.gains, x)
			if other > integerDot(m.gains, best) || other == integerDot(m.gains, best) && slices.Compare(x, best) < 0 {
				t.Errorf("WholePlan of %s: got %v, but %v comes before", what, best, x)
			}
		}
		wantText(t, "WholeCount of "+what, wholeCountText(m.narrow(), top), fmt.Sprint(len(plans), " true"))
		for k := 0; k < len(plans); k += 1 + len(plans)/9 {
			checkClimb(t, m, plans[k], top)
		}
	}
}

// checkClimb wants that a climb ends at a plan that keeps the rows, from which no
// step leads to a better one, and that it took as many steps as this is away, as
// no step goes back.
func checkClimb(t *testing.T, m integerRows, from []int64, top int64) {
	t.Helper()
	x, times, ok := impl.ClimbPlan(m.narrow(), from, top)
	if !ok || !m.keeps(x, top) || integerDot(m.gains, x) < integerDot(m.gains, from)+times {
		t.Fatalf("ClimbPlan of %v from %v: got %v, %d, %v", m, from, x, times, ok)
	}
	away := int64(0)
	for i := range x {
		away += max(x[i]-from[i], from[i]-x[i])
		for _, n := range []int64{x[i] - 1, x[i] + 1} {
			if y := withAt(x, i, n); m.keeps(y, top) && integerDot(m.gains, y) > integerDot(m.gains, x) {
				t.Errorf("ClimbPlan of %v from %v: got %v, but %v is better", m, from, x, y)
			}
		}
	}
	if away != times {
		t.Errorf("ClimbPlan of %v from %v: got %v in %d steps", m, from, x, times)
	}
}

// TestWholePlansKeepTheirRows looks at numbers of all kinds, also at those with
// which sums are rounded, or are not finite.
func TestWholePlansKeepTheirRows(t *testing.T) {
	for i, r := range manySmallRows(500) {
		top := int64(1 + i%5)
		best, gain, ok := impl.WholePlan(r, top)
		if told, _ := impl.GainOf(r, narrowed(best)); !ok || !isModelWhole(r, best, top) || told != gain {
			t.Errorf("WholePlan of %s up to %d: got %v, %v, %v", rowsText(r), top, best, gain, ok)
		}
		if climbed, _, ok := impl.ClimbPlan(r, best, top); !ok || fmt.Sprint(climbed) != fmt.Sprint(best) {
			t.Errorf("ClimbPlan of %s from the best plan: got %v, %v", rowsText(r), climbed, ok)
		}
		climbed, _, _ := impl.ClimbPlan(r, make([]int64, r.Vars), top)
		if told, _ := impl.GainOf(r, narrowed(climbed)); !isModelWhole(r, climbed, top) || told > gain || told < 0 {
			t.Errorf("ClimbPlan of %s up to %d: got %v", rowsText(r), top, climbed)
		}
	}
}

func narrowed(list []int64) []float32 {
	var numbers []float32
	for _, n := range list {
		numbers = append(numbers, float32(n))
	}
	return numbers
}

// TestGapsAndRoundedPlans wants that plans that are not whole gain no less than
// whole ones, nearly, if these can have the same numbers; and that where no number
// of a row is less than 0, a plan that is rounded down is a plan.
func TestGapsAndRoundedPlans(t *testing.T) {
	rounded := 0
	for i, m := range manyIntegerRows(400) {
		r := m.narrow()
		gap, ok := impl.WholeGap(r, 5, 64, 0)
		if ok && gap < -1e-4 {
			t.Errorf("WholeGap of %s: got %v", rowsText(r), gap)
		}
		plan, _, ok := impl.SolveRows(r, 64, 0)
		if !ok || i/4%3 != 0 || slices.Max(plan) > 1000000 || slices.Min(plan) < 0 {
			continue
		}
		x, ok := impl.RoundedPlan(r, plan)
		if !ok || !m.keeps(x, 1000000) {
			t.Errorf("RoundedPlan of %s: got %v of %v", rowsText(r), x, plan)
		}
		for k, n := range x {
			if float64(n) > float64(plan[k]) || float64(n+1) <= float64(plan[k]) {
				t.Errorf("RoundedPlan of %v: got %v", plan, x)
			}
		}
		rounded++
	}
	wantBool(t, "there are plans that are rounded", rounded > 50, true)
}

// areDifferent reports whether no two integers are equal.
func areDifferent(list []int64) bool {
	set := map[int64]bool{}
	for _, n := range list {
		set[n] = true
	}
	return len(set) == len(list)
}

// hasFewNumbers reports whether some domains have fewer numbers altogether than
// they are; just then there is no choice.
func hasFewNumbers(domains [][]int64) bool {
	for set := range 1 << len(domains) {
		if count, numbers := sizesIn(domains, set); numbers < count {
			return true
		}
	}
	return false
}

func TestChoicesAreAllDifferent(t *testing.T) {
	for _, domains := range manyDomains(900) {
		first, ok := impl.FirstDiffer(domains)
		wantBool(t, fmt.Sprint("FirstDiffer ", domains), ok, !hasFewNumbers(domains))
		count, _ := impl.CountDiffers(domains)
		wantBool(t, fmt.Sprint("CountDiffers ", domains), count > 0, ok)
		narrow, is := impl.NarrowDiffers(domains)
		wantBool(t, fmt.Sprint("NarrowDiffers ", domains), is, ok)
		if !ok {
			continue
		}
		wantBool(t, fmt.Sprint("the numbers differ: ", first), areDifferent(first) && len(first) == len(domains), true)
		for i, domain := range domains {
			wantBool(t, fmt.Sprint("FirstDiffer ", domains, first), slices.Contains(domain, first[i]), true)
			for _, n := range domain {
				with := append([][]int64{}, domains...)
				with[i] = ints(n)
				wantBool(t, fmt.Sprint("NarrowDiffers ", domains, i, n), slices.Contains(narrow[i], n), !hasFewNumbers(with))
			}
		}
		again, _ := impl.CountDiffers(narrow)
		wantText(t, fmt.Sprint("choices of ", domains, " when narrow"), fmt.Sprint(again), fmt.Sprint(count))
	}
}

func TestQueensAndSquaresAreAllDifferent(t *testing.T) {
	for n := int64(1); n <= 8; n++ {
		columns, ok := impl.FirstQueens(n)
		var up, down []int64
		for row, column := range columns {
			up, down = append(up, column+int64(row)), append(down, column-int64(row))
		}
		wantBool(t, fmt.Sprint("FirstQueens ", n, columns), areDifferent(columns) && areDifferent(up) && areDifferent(down), true)
		wantBool(t, fmt.Sprint("FirstQueens ", n, columns), int64(len(columns)) == n, ok)
	}
	for _, c := range manySquares(600) {
		square, ok := impl.FillSquare(c.n, c.cells)
		wantBool(t, fmt.Sprint("FillSquare ", c), int64(len(square)) == c.n*c.n, ok)
		for i := int64(0); ok && i < c.n; i++ {
			var row, column []int64
			for k := range c.n {
				row, column = append(row, square[i*c.n+k]), append(column, square[k*c.n+i])
			}
			wantBool(t, fmt.Sprint("FillSquare ", c, square), areDifferent(row) && areDifferent(column), true)
		}
		for i, number := range square {
			wantBool(t, fmt.Sprint("FillSquare ", c, square), number >= 1 && number <= c.n && (c.cells[i] == 0 || c.cells[i] == number), true)
		}
	}
}

func TestCasesAreLoadedAsTheyWereStored(t *testing.T) {
	state := sequence(67)
	for i, c := range append(manyCases(400), rightCases()...) {
		bytes, ok := impl.StoreCase(c)
		loaded, is := impl.LoadCase(bytes)
		wantBool(t, fmt.Sprint("LoadCase of StoreCase ", c), ok && is && impl.SameCases([]impl.Case{loaded}, []impl.Case{c}), true)
		again, _ := impl.StoreCase(loaded)
		wantText(t, "StoreCase of LoadCase", again, bytes)
		wantText(t, "a proof stays one", fmt.Sprint(impl.IsProof(loaded.Form, loaded.Proof)), fmt.Sprint(impl.IsProof(c.Form, c.Proof)))
		for range 20 {
			at, by := state.below(len(bytes)), byte(1+state.below(255))
			changed := bytes[:at] + string([]byte{bytes[at] ^ by}) + bytes[at+1:]
			wantText(t, fmt.Sprintf("LoadCase %d, changed at %d by %d", i, at, by), loadText(changed), noCase)
			wantText(t, fmt.Sprintf("LoadCase %d, cut at %d", i, at), loadText(bytes[:at]), noCase)
		}
	}
}
