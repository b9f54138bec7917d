package tests

import (
	"fmt"
	"math"
	"testing"

	"loop.example/g01346/impl"
)

// This file is about promise 1 for chapter 2: every function returns for all
// arguments, modifies none of them, returns equal results for equal ones, and
// zero values where it fails.

// outcome is what a function tells, and what it must tell if it fails.
type outcome struct {
	name, text, zero string
	ok               bool
}

func saysNumber(name string, x float32, ok bool) outcome {
	return outcome{name, hex(x), "00000000", ok}
}

func saysList(name string, list []float32, ok bool) outcome {
	return outcome{name, hexList(list), "", ok}
}

func saysInteger(name string, n int64, ok bool) outcome {
	return outcome{name, fmt.Sprint(n), "0", ok}
}

func saysRows(name string, r impl.Rows, ok bool) outcome {
	return outcome{name, fmt.Sprint(r.Vars, rowsText(r)), fmt.Sprint(0, rowsText(impl.Rows{})), ok}
}

func saysTable(name string, t impl.Table, ok bool) outcome {
	return outcome{name, tableText(t), tableText(impl.Table{}), ok}
}

func saysBool(name string, is bool) outcome { return outcome{name, "", "", is} }

// settings are the arguments besides rows, tables and lists.
type settings struct {
	i, column, most int64
	near            float32
}

func (s settings) text() string {
	return fmt.Sprint(s.i, " ", s.column, " ", s.most, " ", hex(s.near))
}

func outcomesOfRows(r impl.Rows, x, y []float32, s settings) []outcome {
	gain, ok := impl.GainOf(r, x)
	list := []outcome{
		saysBool("ValidRows", impl.ValidRows(r)), saysBool("SameRows", impl.SameRows(r, copyRows(r))),
		saysBool("IsPlan", impl.IsPlan(r, x, s.near)), saysBool("IsRay", impl.IsRay(r, x, s.near)),
		saysBool("ArePrices", impl.ArePrices(r, y, s.near)), saysNumber("GainOf", gain, ok),
	}
	left, ok := impl.LeftOf(r, x)
	list = append(list, saysList("LeftOf", left, ok))
	more, ok := impl.AddRow(r, x, s.near)
	list = append(list, saysRows("AddRow", more, ok))
	fewer, ok := impl.DropRow(r, s.i)
	list = append(list, saysRows("DropRow", fewer, ok))
	scaled, ok := impl.ScaleRows(r)
	list = append(list, saysRows("ScaleRows", scaled, ok))
	table, ok := impl.TableOf(r)
	list = append(list, saysTable("TableOf", table, ok))
	plan, prices, ok := impl.SolveRows(r, s.most, s.near)
	list = append(list, saysList("SolveRows, plan", plan, ok), saysList("SolveRows, prices", prices, ok))
	ray, ok := impl.RayOf(r, s.most, s.near)
	list = append(list, saysList("RayOf", ray, ok))
	gap, ok := impl.PriceGap(r, x, y)
	list = append(list, saysNumber("PriceGap", gap, ok))
	low, high, ok := impl.BoundRange(r, s.i, s.most, s.near)
	list = append(list, saysNumber("BoundRange, low", low, ok), saysNumber("BoundRange, high", high, ok))
	corner, ok := impl.BestCorner(r, s.near)
	return append(list, saysList("BestCorner", corner, ok))
}

func outcomesOfTable(t impl.Table, s settings) []outcome {
	enter, ok := impl.EnterOf(t, s.near)
	list := []outcome{
		saysBool("ValidTable", impl.ValidTable(t)), saysBool("SameTable", impl.SameTable(t, copyTable(t))),
		saysInteger("EnterOf", enter, ok),
	}
	leave, ok := impl.LeaveOf(t, s.column, s.near)
	list = append(list, saysInteger("LeaveOf", leave, ok))
	pivot, ok := impl.PivotTable(t, s.i, s.column)
	list = append(list, saysTable("PivotTable", pivot, ok))
	solved, steps, ok := impl.SolveTable(t, s.most, s.near)
	list = append(list, saysTable("SolveTable", solved, ok), saysInteger("SolveTable, pivots", steps, ok))
	plan, ok := impl.PlanOf(t)
	list = append(list, saysList("PlanOf", plan, ok))
	prices, ok := impl.PricesOf(t)
	return append(list, saysList("PricesOf", prices, ok))
}

// checkOutcomes wants the same twice, and zero values where a function fails.
func checkOutcomes(t *testing.T, what string, first, again []outcome) {
	t.Helper()
	for k, c := range first {
		if c != again[k] {
			t.Errorf("%s of %s: got %v, then %v", c.name, what, c, again[k])
		}
		if !c.ok && c.text != c.zero {
			t.Errorf("%s of %s fails, but tells %q", c.name, what, c.text)
		}
	}
}

func manySettings() []settings {
	var list []settings
	nears := append(edgeNumbers(), 0x1p-20, 0.25)
	mosts := []int64{64, 64, 64, 0, 1, 63, 65, -1, math.MinInt64, math.MaxInt64, 1<<32 + 3}
	places := []int64{0, 1, 2, 3, 7, 8, 9, 15, 16, -1, math.MinInt64, math.MaxInt64, 1 << 32}
	for n := range 60 {
		list = append(list, settings{places[n*5%len(places)], places[n%len(places)], mosts[n*3%len(mosts)], nears[n%len(nears)]})
	}
	return list
}

// edgeRows are rows to which any function must have an answer.
func edgeRows() []impl.Rows {
	list := append(invalidRows(), manyRows(60)...)
	most := num(bitsMost)
	list = append(list, exampleRows(), fullRows(), longRows(8),
		impl.Rows{Vars: 8, Numbers: repeat(64, most), Bounds: repeat(8, most), Gains: repeat(8, most)},
		impl.Rows{Vars: 8, Numbers: repeat(64, num(bitsLeast)), Bounds: repeat(8, most), Gains: repeat(8, most)},
		impl.Rows{Vars: 2, Numbers: []float32{most, -most, -most, most, 1, 1}, Bounds: []float32{most, 0, most}, Gains: []float32{most, -most}},
	)
	for _, n := range []int{256, 257, 5000} {
		list = append(list, impl.Rows{Vars: int64(n), Numbers: repeat(n, float32(1)), Bounds: []float32{1}, Gains: repeat(n, float32(1))})
		list = append(list, impl.Rows{Vars: 1, Numbers: repeat(n, float32(1)), Bounds: repeat(n, float32(1)), Gains: []float32{1}})
	}
	return list
}

func edgePoints(n int) [][]float32 {
	if n < 0 || n > 5000 {
		n = 2
	}
	return [][]float32{
		nil, repeat(n, float32(0)), repeat(n, num(bitsMinusZero)), repeat(n, float32(1)), repeat(n, num(bitsMost)), repeat(n, -num(bitsMost)),
		repeat(n, num(bitsNaN)), repeat(n, num(bitsInf)), repeat(n+1, float32(1)), repeat(300, float32(1)),
	}
}

func TestFunctionsOfRowsAlwaysReturn(t *testing.T) {
	all := manySettings()
	for n, r := range edgeRows() {
		numbers, bounds, gains := keep(r.Numbers, 77), keep(r.Bounds, 78), keep(r.Gains, 79)
		kept := impl.Rows{Vars: r.Vars, Numbers: numbers.list, Bounds: bounds.list, Gains: gains.list}
		for k, x := range edgePoints(int(min(r.Vars, 5001))) {
			y := edgePoints(len(r.Bounds))[k]
			some, other := keep(x, 80), keep(y, 81)
			for step := range 6 {
				s := all[(n*7+k*11+step)%len(all)]
				first, again := outcomesOfRows(kept, some.list, other.list, s), outcomesOfRows(kept, some.list, other.list, s)
				checkOutcomes(t, fmt.Sprintf("%.99s at %s", rowsText(r), s.text()), first, again)
			}
			some.is(t, "a function of rows")
			other.is(t, "a function of rows")
		}
		numbers.is(t, "a function of rows")
		bounds.is(t, "a function of rows")
		gains.is(t, "a function of rows")
	}
}

// edgeTables are tables to which any function must have an answer.
func edgeTables() []impl.Table {
	most := num(bitsMost)
	list := append(invalidTables(), exampleTable(),
		impl.Table{Vars: 8, Numbers: repeat(153, most), Basis: []int64{15, 0, 14, 1, 13, 2, 12, 3}},
		impl.Table{Vars: 8, Numbers: repeat(153, -most), Basis: []int64{8, 9, 10, 11, 12, 13, 14, 15}},
		impl.Table{Vars: 1, Numbers: repeat(6, num(bitsLeast)), Basis: []int64{0}},
		impl.Table{Vars: 1, Numbers: make([]float32, 5000), Basis: make([]int64, 5000)},
		impl.Table{Vars: 5000, Numbers: make([]float32, 10004), Basis: []int64{5000}},
	)
	state := sequence(9)
	for n, r := range manyRows(120) {
		table, _ := impl.TableOf(r)
		for range n % 4 {
			if after, ok := impl.PivotTable(table, int64(state.below(8)), int64(state.below(16))); ok {
				table = after
			}
		}
		list = append(list, table)
	}
	for n := range 60 {
		table := exampleTable()
		for i := range table.Numbers {
			table.Numbers[i] = float32(state.below(9)-4) / float32(1+n%3)
		}
		table.Basis = []int64{int64(n % 4), int64((n + 1 + n/4%3) % 4)}
		list = append(list, table)
	}
	return list
}

func TestFunctionsOfTablesAlwaysReturn(t *testing.T) {
	for n, table := range edgeTables() {
		numbers, basis := keep(table.Numbers, 77), keep(table.Basis, 78)
		kept := impl.Table{Vars: table.Vars, Numbers: numbers.list, Basis: basis.list}
		for k, s := range manySettings() {
			if k%3 != n%3 {
				continue
			}
			first, again := outcomesOfTable(kept, s), outcomesOfTable(kept, s)
			checkOutcomes(t, fmt.Sprintf("%.99s at %s", tableText(table), s.text()), first, again)
		}
		numbers.is(t, "a function of tables")
		basis.is(t, "a function of tables")
	}
}

// TestInvalidRowsMakeFunctionsFail wants that for each thing that can be wrong.
func TestInvalidRowsMakeFunctionsFail(t *testing.T) {
	good := settings{0, 0, 64, 0}
	for _, r := range invalidRows() {
		for _, x := range [][]float32{{1, 1}, {0, 0}, {0, 1}, repeat(int(max(0, min(r.Vars, 9))), float32(0))} {
			for _, c := range outcomesOfRows(r, x, []float32{1, 1}, good) {
				if c.name != "SameRows" && c.ok {
					t.Errorf("%s of %s does not fail", c.name, rowsText(r))
				}
			}
		}
	}
	for _, c := range outcomesOfRows(exampleRows(), []float32{1, 1}, []float32{1, 1}, good) {
		if !c.ok && c.name != "IsRay" && c.name != "RayOf" {
			t.Errorf("%s fails for the example", c.name)
		}
	}
}

func TestInvalidTablesMakeFunctionsFail(t *testing.T) {
	good := settings{0, 0, 64, 0}
	for _, table := range invalidTables() {
		for _, c := range outcomesOfTable(table, good) {
			if c.name != "SameTable" && c.ok {
				t.Errorf("%s of %s does not fail", c.name, tableText(table))
			}
		}
	}
	for _, c := range outcomesOfTable(exampleTable(), good) {
		wantBool(t, c.name+" of the example", c.ok, true)
	}
}

// results are the slices of one call, and how they were.
type results struct {
	name  string
	lists [][]float32
	basis []int64
}

func (r results) text() string {
	text := fmt.Sprint(r.basis)
	for _, list := range r.lists {
		text += "; " + hexList(list)
	}
	return text
}

func resultsOfRows(name string, r impl.Rows) results {
	return results{name: name, lists: [][]float32{r.Numbers, r.Bounds, r.Gains}}
}

func resultsOfTable(name string, t impl.Table) results {
	return results{name: name, lists: [][]float32{t.Numbers}, basis: t.Basis}
}

func resultsOfLists(name string, lists ...[]float32) results {
	return results{name: name, lists: lists}
}

// allResults calls all functions that return slices.
func allResults(r impl.Rows, x []float32, table impl.Table) []results {
	left, _ := impl.LeftOf(r, x)
	more, _ := impl.AddRow(r, x, 5)
	fewer, _ := impl.DropRow(r, 1)
	first, _ := impl.DropRow(r, 0)
	scaled, _ := impl.ScaleRows(r)
	made, _ := impl.TableOf(r)
	pivot, _ := impl.PivotTable(table, 1, 0)
	solved, _, _ := impl.SolveTable(table, 64, 0)
	near, _, _ := impl.SolveTable(table, 64, 9)
	plan, prices, _ := impl.SolveRows(r, 64, 0)
	ray, _ := impl.RayOf(first, 64, 0)
	corner, _ := impl.BestCorner(r, 0)
	solvedPlan, _ := impl.PlanOf(table)
	solvedPrices, _ := impl.PricesOf(table)
	return []results{
		resultsOfLists("LeftOf", left), resultsOfRows("AddRow", more), resultsOfRows("DropRow", fewer), resultsOfRows("DropRow", first),
		resultsOfRows("ScaleRows", scaled), resultsOfTable("TableOf", made), resultsOfTable("PivotTable", pivot), resultsOfTable("SolveTable", solved),
		resultsOfTable("SolveTable without a pivot", near), resultsOfLists("SolveRows", plan, prices), resultsOfLists("RayOf", ray),
		resultsOfLists("BestCorner", corner), resultsOfLists("PlanOf", solvedPlan), resultsOfLists("PricesOf", solvedPrices),
	}
}

// TestResultsShareNothing overwrites one slice of the results after another,
// and the room behind it, and wants the arguments and all others unchanged.
func TestResultsShareNothing(t *testing.T) {
	r, table, x := exampleRows(), exampleTable(), []float32{1, 1}
	was := rowsText(r) + tableText(table) + hexList(x)
	all := allResults(r, x, table)
	for i := range all {
		for k := range all[i].lists {
			if len(all[i].lists[k]) == 0 {
				t.Errorf("%s has nothing to overwrite", all[i].name)
			}
			before := textsBut(all, i, k)
			overwrite(all[i].lists[k], 99)
			wantText(t, all[i].name, textsBut(all, i, k), before)
		}
		before := textsBut(all, i, -1)
		overwrite(all[i].basis, 99)
		wantText(t, all[i].name, textsBut(all, i, -1), before)
	}
	wantText(t, "the arguments", rowsText(r)+tableText(table)+hexList(x), was)
}

// textsBut tells all results but one slice, which is the Basis for k = -1.
func textsBut(all []results, i, k int) string {
	text := ""
	for n, r := range all {
		if n == i {
			lists := append([][]float32(nil), r.lists...)
			if k < 0 {
				r.basis = nil
			} else {
				lists[k] = nil
			}
			r.lists = lists
		}
		text += r.name + " " + r.text() + "\n"
	}
	return text
}
