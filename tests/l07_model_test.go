package tests

import (
	"fmt"
	"testing"

	"loop.example/g01346/impl"
)

// This file holds a second, separate computation of whole plans and of things
// that differ, with 64-bit numbers that are narrowed after each operation.

// countUp changes a list of digits, each less than its limit, to the next one, in
// which the last digit goes up first; it reports whether there is one.
func countUp(digits, limits []int) bool {
	for i := len(digits) - 1; i >= 0; i-- {
		if digits[i]++; digits[i] < limits[i] {
			return true
		}
		digits[i] = 0
	}
	return false
}

func isModelWhole(r impl.Rows, x []int64, top int64) bool {
	for _, n := range x {
		if n < 0 || n > top {
			return false
		}
	}
	return modelIsPlan(r, wideIntegers(x), 0)
}

func wideIntegers(list []int64) []float64 {
	var numbers []float64
	for _, n := range list {
		numbers = append(numbers, float64(n))
	}
	return numbers
}

// modelWholes returns all whole plans, in order.
func modelWholes(r impl.Rows, top int64) [][]int64 {
	var plans [][]int64
	digits, limits := make([]int, r.Vars), repeat(int(r.Vars), int(top)+1)
	for more := true; more; more = countUp(digits, limits) {
		var x []int64
		for _, digit := range digits {
			x = append(x, int64(digit))
		}
		if isModelWhole(r, x, top) {
			plans = append(plans, x)
		}
	}
	return plans
}

func modelGain(r impl.Rows, x []int64) (float64, bool) {
	gain := modelDot(wide(r.Gains), wideIntegers(x))
	return gain, finite(gain)
}

// modelBestWhole returns the first one of those plans that gain most.
func modelBestWhole(r impl.Rows, plans [][]int64) ([]int64, float64, bool) {
	best, most, found := []int64(nil), 0.0, false
	for i := len(plans) - 1; i >= 0; i-- {
		if gain, ok := modelGain(r, plans[i]); ok && (!found || gain >= most) {
			best, most, found = plans[i], gain, true
		}
	}
	return best, most, found
}

func modelClimb(r impl.Rows, x []int64, top int64) string {
	gain, ok := modelGain(r, x)
	if !ok || !isModelWhole(r, x, top) {
		return "[] 0 false"
	}
	for times := 0; ; times++ {
		var near [][]int64
		for i := range x {
			for _, n := range []int64{x[i] - 1, x[i] + 1} {
				if y := withAt(x, i, n); isModelWhole(r, y, top) {
					near = append(near, y)
				}
			}
		}
		best, most, ok := modelBestWhole(r, near)
		if !ok || most <= gain {
			return fmt.Sprint(x, " ", times, " true")
		}
		x, gain = best, most
	}
}

// manySmallRows returns rows that can have whole plans.
func manySmallRows(count int) []impl.Rows {
	var list []impl.Rows
	for _, r := range manyRows(2 * count) {
		if r.Vars <= impl.MaxWhole {
			list = append(list, r)
		}
	}
	return list
}

func TestWholePlansAreThoseOfTheModel(t *testing.T) {
	for i, r := range manySmallRows(600) {
		top := int64(1 + i%5)
		plans := modelWholes(r, top)
		best, gain, ok := modelBestWhole(r, plans)
		got, told, is := impl.WholePlan(r, top)
		what := fmt.Sprint("of ", rowsText(r), " up to ", top)
		wantText(t, "WholePlan "+what, fmt.Sprint(got, hex(told), is), fmt.Sprint(best, hex(float32(gain)), ok))
		wantText(t, "WholeCount "+what, wholeCountText(r, top), fmt.Sprint(len(plans), " true"))
		near := manyNears()[i%5]
		want := "00000000 false"
		if plan, _, ok := impl.SolveRows(r, 64, near); ok {
			if gap := modelLess(modelDot(wide(r.Gains), wide(plan)), gain); finite(gap) {
				want = hex(float32(gap)) + " true"
			}
		}
		wantText(t, "WholeGap "+what, gapText(r, top, 64, near), want)
	}
}

func TestClimbsAreThoseOfTheModel(t *testing.T) {
	state := sequence(60)
	for i, r := range manySmallRows(600) {
		top := int64(1 + i%5)
		plans := modelWholes(r, top)
		starts := [][]int64{plans[0], plans[len(plans)-1], plans[state.below(len(plans))]}
		wild := make([]int64, r.Vars)
		for k := range wild {
			wild[k] = int64(state.below(int(top) + 1))
		}
		for _, x := range append(starts, wild) {
			wantText(t, fmt.Sprint("ClimbPlan of ", rowsText(r), " up to ", top, " from ", x), climbText(r, top, x...), modelClimb(r, x, top))
		}
	}
}

func TestAnyNumberOfWorkersFindsTheSameWholePlans(t *testing.T) {
	all := manySmallRows(100)
	for i := 0; i+8 <= len(all); i += 3 {
		list, top := all[i:i+i%9], int64(1+i%5)
		var want []float32
		for _, r := range list {
			_, gain, _ := impl.WholePlan(r, top)
			want = append(want, gain)
		}
		for workers := int64(1); workers <= 8; workers++ {
			wantText(t, fmt.Sprint("WholesShared by ", workers), wholesText(list, top, workers), floats(want...))
		}
	}
}

// modelChoices returns all choices of domains, in order.
func modelChoices(domains [][]int64) [][]int64 {
	var choices [][]int64
	var limits []int
	for _, domain := range domains {
		limits = append(limits, len(domain))
	}
	digits := make([]int, len(domains))
	for more := true; more; more = countUp(digits, limits) {
		var choice []int64
		used := map[int64]bool{}
		for i, domain := range domains {
			choice = append(choice, domain[digits[i]])
			used[domain[digits[i]]] = true
		}
		if len(used) == len(domains) {
			choices = append(choices, choice)
		}
	}
	return choices
}

// manyDomains returns domains, most of few numbers.
func manyDomains(count int) [][][]int64 {
	state := sequence(61)
	var list [][][]int64
	for i := range count {
		domains := make([][]int64, 1+i%6)
		most, below := []int{2, 3, 4, 8}[i/6%4], []int{4, 6, 9, 32}[i/24%4]
		if len(domains) > 4 {
			most = min(most, 4)
		}
		for k := range domains {
			size := 1 + state.below(most)
			for n, left := 0, below; n < below && size > 0; n, left = n+1, left-1 {
				if state.below(left) < size {
					domains[k] = append(domains[k], int64(n))
					size--
				}
			}
		}
		list = append(list, domains)
	}
	return list
}

// sizesIn returns how many domains a set has, a digit each, and how many different
// numbers are in them altogether.
func sizesIn(domains [][]int64, set int) (int, int) {
	count, numbers := 0, map[int64]bool{}
	for i, domain := range domains {
		if set>>i&1 == 0 {
			continue
		}
		count++
		for _, n := range domain {
			numbers[n] = true
		}
	}
	return count, len(numbers)
}

// modelTight returns the sets of domains that have as many numbers as they are.
func modelTight(domains [][]int64) []int64 {
	tight := []int64{}
	for set := range 1 << len(domains) {
		if count, numbers := sizesIn(domains, set); count == numbers {
			tight = append(tight, int64(set))
		}
	}
	return tight
}

func TestChoicesAreThoseOfTheModel(t *testing.T) {
	for _, domains := range manyDomains(600) {
		choices := modelChoices(domains)
		first, narrow := "[] false", "[] false"
		if len(choices) > 0 {
			first = fmt.Sprint(choices[0], " true")
			left := make([][]int64, len(domains))
			for i, domain := range domains {
				used := map[int64]bool{}
				for _, choice := range choices {
					used[choice[i]] = true
				}
				for _, n := range domain {
					if used[n] {
						left[i] = append(left[i], n)
					}
				}
			}
			narrow = fmt.Sprint(left, " true")
		}
		what := fmt.Sprint(" of ", domains)
		wantText(t, "FirstDiffer"+what, firstDifferText(domains), first)
		wantText(t, "CountDiffers"+what, countDiffersText(domains), fmt.Sprint(len(choices), " true"))
		wantText(t, "NarrowDiffers"+what, narrowText(domains), narrow)
		wantText(t, "TightSets"+what, tightText(domains), fmt.Sprint(modelTight(domains), " true"))
	}
}

func TestQueensAreThoseOfTheModel(t *testing.T) {
	for n := 1; n <= 8; n++ {
		var least []int64
		count := 0
		allOrders(n, func(order []int64) {
			up, down := map[int64]bool{}, map[int64]bool{}
			for row, column := range order {
				up[column+int64(row)] = true
				down[column-int64(row)] = true
			}
			if len(up) < n || len(down) < n {
				return
			}
			count++
			if least == nil || fmt.Sprint(order) < fmt.Sprint(least) { // columns have one digit each
				least = append([]int64{}, order...)
			}
		})
		wantText(t, fmt.Sprint("FirstQueens ", n), listText(impl.FirstQueens(int64(n))), fmt.Sprint(least, " ", count > 0))
		wantText(t, fmt.Sprint("CountQueens ", n), numberText(impl.CountQueens(int64(n))), fmt.Sprint(count, " true"))
	}
}

// modelSquares goes over all squares with known cells, row by row, in order, for
// as long as visit returns true; filled are the rows before.
func modelSquares(c squareCase, filled []int64, visit func(square []int64) bool) bool {
	n := int(c.n)
	if len(filled) == n*n {
		return visit(filled)
	}
	row := c.cells[len(filled) : len(filled)+n]
	digits := make([]int, n)
	for more := true; more; more = countUp(digits, repeat(n, n)) {
		used, good := 0, true
		for column, digit := range digits {
			number := int64(digit + 1)
			used |= 1 << digit
			good = good && (row[column] == 0 || row[column] == number)
			for above := column; above < len(filled); above += n {
				good = good && filled[above] != number
			}
		}
		if !good || used != 1<<n-1 {
			continue
		}
		next := append([]int64{}, filled...)
		for _, digit := range digits {
			next = append(next, int64(digit+1))
		}
		if !modelSquares(c, next, visit) {
			return false
		}
	}
	return true
}

// manySquares returns squares with some known cells: those of a full square, of
// which some are changed, or any ones.
func manySquares(count int) []squareCase {
	state := sequence(62)
	var list []squareCase
	for i := range count {
		n := 1 + i%5
		c := emptySquare(int64(n))
		shift, turn := state.below(n), 1+state.below(2)
		for cell := range c.cells {
			row, column := cell/n, cell%n
			if state.below(4) > i/5%4 || n == 5 && state.below(3) > 0 {
				c.cells[cell] = int64((row*turn+column+shift)%n + 1)
			}
			if state.below(40) == 0 || i%7 == 0 && n < 5 && state.below(4) == 0 {
				c.cells[cell] = int64(1 + state.below(n))
			}
		}
		list = append(list, c)
	}
	return list
}

func TestSquaresAreThoseOfTheModel(t *testing.T) {
	for _, c := range manySquares(300) {
		first, count := "[] false", 0
		modelSquares(c, nil, func(square []int64) bool {
			if count++; count == 1 {
				first = fmt.Sprint(square, " true")
			}
			return c.n < 5
		})
		wantText(t, fmt.Sprint("FillSquare ", c), fillSquareText(c), first)
		if c.n < 5 {
			wantText(t, fmt.Sprint("CountSquares ", c), countSquaresText(c), fmt.Sprint(count, " true"))
		}
	}
	full := "[]"
	modelSquares(emptySquare(5), nil, func(square []int64) bool {
		full = fmt.Sprint(square, " true")
		return false
	})
	wantText(t, "FillSquare, empty", fillSquareText(emptySquare(5)), full)
}
