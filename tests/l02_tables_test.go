package tests

import (
	"math"
	"slices"
	"testing"

	"loop.example/g01346/impl"
)

// exampleTable is the table of the document's example.
func exampleTable() impl.Table {
	return impl.Table{Vars: 2, Numbers: []float32{1, 1, 1, 0, 4, 1, 0, 0, 1, 3, -2, -1, 0, 0, 0}, Basis: []int64{2, 3}}
}

func copyTable(t impl.Table) impl.Table {
	return impl.Table{Vars: t.Vars, Numbers: slices.Clone(t.Numbers), Basis: slices.Clone(t.Basis)}
}

// lineTable returns a table of one variable, whose rows have a number of it
// and a last number each, and a Basis; the row behind them is +0.
func lineTable(basis []int64, pairs ...float32) impl.Table {
	width := len(basis) + 2
	t := impl.Table{Vars: 1, Numbers: make([]float32, (len(basis)+1)*width), Basis: basis}
	for i := range basis {
		t.Numbers[i*width] = pairs[2*i]
		t.Numbers[(i+1)*width-1] = pairs[2*i+1]
	}
	return t
}

// invalidTables are the example's table with one thing wrong.
func invalidTables() []impl.Table {
	list := []impl.Table{
		{}, {Vars: 1}, {Vars: 1, Numbers: []float32{1, 1}}, {Vars: 1, Basis: []int64{0}},
		{Vars: 9, Numbers: make([]float32, 22), Basis: []int64{0}},
		{Vars: 1, Numbers: make([]float32, 110), Basis: []int64{0, 1, 2, 3, 4, 5, 6, 7, 8}},
		{Vars: 0, Numbers: make([]float32, 4), Basis: []int64{0}},
	}
	for _, vars := range []int64{0, -1, 1, 3, 9, math.MinInt64, math.MaxInt64, 1 << 32, 1<<32 + 2} {
		t := exampleTable()
		t.Vars = vars
		list = append(list, t)
	}
	change := func(how func(t *impl.Table)) {
		t := exampleTable()
		how(&t)
		list = append(list, t)
	}
	change(func(t *impl.Table) { t.Numbers = t.Numbers[:14] })
	change(func(t *impl.Table) { t.Numbers = append(t.Numbers, 0) })
	change(func(t *impl.Table) { t.Numbers = append(t.Numbers, make([]float32, 5)...) })
	change(func(t *impl.Table) { t.Numbers = nil })
	change(func(t *impl.Table) { t.Basis = nil })
	change(func(t *impl.Table) { t.Basis = t.Basis[:1] })
	change(func(t *impl.Table) { t.Basis = append(t.Basis, 0) })
	for _, column := range []int64{-1, 3, 4, 5, math.MinInt64, math.MaxInt64, 1 << 32} {
		change(func(t *impl.Table) { t.Basis[0] = column })
	}
	for _, column := range []int64{-1, 2, 4, 5} {
		change(func(t *impl.Table) { t.Basis[1] = column })
	}
	for _, x := range notFinite() {
		for i := range exampleTable().Numbers {
			change(func(t *impl.Table) { t.Numbers[i] = x })
		}
	}
	return list
}

func TestValidTable(t *testing.T) {
	most := num(bitsMost)
	for _, table := range []impl.Table{
		exampleTable(), {Vars: 1, Numbers: make([]float32, 6), Basis: []int64{0}}, {Vars: 1, Numbers: make([]float32, 6), Basis: []int64{1}},
		{Vars: 8, Numbers: repeat(153, most), Basis: []int64{15, 0, 14, 1, 13, 2, 12, 3}},
		{Vars: 8, Numbers: repeat(20, -most), Basis: []int64{8}}, lineTable([]int64{8, 0, 1, 2, 3, 4, 5, 6}, make([]float32, 16)...),
		{Vars: 1, Numbers: repeat(6, num(bitsMinusZero)), Basis: []int64{1}},
	} {
		wantBool(t, "ValidTable "+tableText(table), impl.ValidTable(table), true)
	}
	for _, table := range invalidTables() {
		wantBool(t, "ValidTable "+tableText(table), impl.ValidTable(table), false)
	}
}

func TestSameTable(t *testing.T) {
	list := append(invalidTables(), exampleTable(), lineTable([]int64{0}, 1, 2), lineTable([]int64{1}, 1, 2))
	for i, a := range list {
		for k, b := range list {
			if i == k || tableText(a) != tableText(b) {
				wantBool(t, "SameTable "+tableText(a)+" and "+tableText(b), impl.SameTable(a, copyTable(b)), i == k)
			}
		}
	}
	zero := impl.Table{Numbers: []float32{0}}
	wantBool(t, "SameTable, zeros", impl.SameTable(zero, impl.Table{Numbers: []float32{num(bitsMinusZero)}}), false)
	a, b := impl.Table{Numbers: []float32{num(0x7f800001)}}, impl.Table{Numbers: []float32{num(0xffffffff)}, Basis: []int64{}}
	wantBool(t, "SameTable, not-a-numbers", impl.SameTable(a, b), true)
	wantBool(t, "SameTable, nil and empty", impl.SameTable(impl.Table{}, impl.Table{Numbers: []float32{}, Basis: []int64{}}), true)
}

func TestTableOf(t *testing.T) {
	table, ok := impl.TableOf(exampleRows())
	wantBool(t, "TableOf", ok, true)
	// The opposites of the gains, and +0 in the columns of the rows.
	wantText(t, "TableOf", tableText(table), tableText(exampleTable()))
	zero, minusZero := float32(0), num(bitsMinusZero)
	table, ok = impl.TableOf(oneRow(minusZero, []float32{zero, minusZero}, []float32{zero, minusZero}))
	wantBool(t, "TableOf of zeros", ok, true)
	want := impl.Table{Vars: 2, Numbers: []float32{zero, minusZero, 1, minusZero, minusZero, zero, zero, zero}, Basis: []int64{2}}
	wantText(t, "TableOf of zeros", tableText(table), tableText(want))
	table, ok = impl.TableOf(fullRows())
	wantBool(t, "TableOf at both limits", ok && impl.ValidTable(table) && len(table.Numbers) == 153, true)
}

func TestEnterOf(t *testing.T) {
	least := num(bitsLeast)
	for _, c := range []struct {
		gains [4]float32 // of the columns but the last one
		last  float32
		near  float32
		want  int64
	}{
		{[4]float32{-2, -1, 0, 0}, 0, 0, 0}, {[4]float32{1, -1, -5, 0}, 0, 0, 1}, {[4]float32{0, 0, 0, -1}, 0, 0, 3}, {[4]float32{0, 0, 0, 0}, -1, 0, -1},
		{[4]float32{0, num(bitsMinusZero), 0, 0}, 0, 0, -1}, {[4]float32{0, -least, 0, 0}, 0, 0, 1}, {[4]float32{0, -least, 0, 0}, 0, num(bitsMinusZero), 1},
		{[4]float32{0, -least, -2 * least, 0}, 0, least, 2}, {[4]float32{-1, num(0xbf800001), -2, 0}, 0, 1, 1}, {[4]float32{-2, -1, 0, 0}, 0, 2, -1},
		{[4]float32{-num(bitsMost), -1, 0, 0}, 0, num(bitsMost), -1},
	} {
		table := exampleTable()
		copy(table.Numbers[10:], c.gains[:])
		table.Numbers[14] = c.last
		got, ok := impl.EnterOf(table, c.near)
		if !ok || got != c.want {
			t.Errorf("EnterOf %v near %v: got %d, %v, want %d", c.gains, c.near, got, ok, c.want)
		}
	}
	for _, near := range append(notFinite(), -1, -least) {
		if got, ok := impl.EnterOf(exampleTable(), near); ok || got != 0 {
			t.Errorf("EnterOf near %v: got %d, %v", near, got, ok)
		}
	}
}

func TestLeaveOf(t *testing.T) {
	most, least, minusZero := num(bitsMost), num(bitsLeast), num(bitsMinusZero)
	for _, c := range []struct {
		basis []int64
		pairs []float32
		near  float32
		want  int64
	}{
		{[]int64{1, 2}, []float32{1, 4, 1, 3}, 0, 1}, {[]int64{1, 2}, []float32{2, 4, 1, 3}, 0, 0}, {[]int64{1, 2}, []float32{-1, 1, 1, 3}, 0, 1},
		{[]int64{1, 2}, []float32{0, 1, minusZero, 1}, 0, -1}, {[]int64{1, 2}, []float32{-1, 1, -1, 1}, 0, -1},
		// Equal quotients: the least Basis decides, and not the order of rows.
		{[]int64{1, 2}, []float32{1, 3, 2, 6}, 0, 0}, {[]int64{2, 1}, []float32{1, 3, 2, 6}, 0, 1}, {[]int64{2, 0, 1}, []float32{1, 3, 2, 6, 4, 12}, 0, 1},
		{[]int64{2, 3, 1}, []float32{1, 3, 1, 2, 4, 12}, 0, 1}, {[]int64{3, 2, 1}, []float32{1, 3, 2, 6, 4, 12}, 0, 2},
		// Equal as they are rounded, though the first one is less.
		{[]int64{2, 1}, []float32{3, 1, 1, num(0x3eaaaaab)}, 0, 1}, {[]int64{1, 2}, []float32{1, num(0x3eaaaaab), 3, 1}, 0, 0},
		// Bounds of nothing: zeros with either sign are equal.
		{[]int64{2, 1}, []float32{1, 0, 1, 0}, 0, 1}, {[]int64{2, 1}, []float32{1, minusZero, 1, 0}, 0, 1}, {[]int64{1, 2}, []float32{1, 0, 1, minusZero}, 0, 0},
		{[]int64{1, 2}, []float32{1, 0, 1, -1}, 0, 1},
		// Quotients that are infinities are equal, and more than all others.
		{[]int64{2, 1}, []float32{least, most, 0.5, most}, 0, 1}, {[]int64{1, 2}, []float32{least, most, 1, most}, 0, 1},
		{[]int64{2, 1}, []float32{least, -most, 0.5, -most}, 0, 1}, {[]int64{1, 2}, []float32{least, most, 0, 1}, 0, 0},
		// Numbers must be greater than near.
		{[]int64{1, 2}, []float32{1, 1, 2, 9}, 1, 1}, {[]int64{1, 2}, []float32{num(0x3f800001), 1, 2, 9}, 1, 0}, {[]int64{1, 2}, []float32{1, 1, 2, 9}, 2, -1},
		{[]int64{1, 2}, []float32{least, 1, 0, 9}, minusZero, 0}, {[]int64{1, 2}, []float32{least, 1, 0, 9}, least, -1}, {[]int64{1}, []float32{most, 1}, most, -1},
	} {
		got, ok := impl.LeaveOf(lineTable(c.basis, c.pairs...), 0, c.near)
		if !ok || got != c.want {
			t.Errorf("LeaveOf %v %v near %v: got %d, %v, want %d", c.basis, c.pairs, c.near, got, ok, c.want)
		}
	}
	for column, want := range []int64{1, 0, 0, 1} {
		if got, ok := impl.LeaveOf(exampleTable(), int64(column), 0); !ok || got != want {
			t.Errorf("LeaveOf column %d: got %d, %v, want %d", column, got, ok, want)
		}
	}
	for _, column := range []int64{-1, 4, 5, math.MinInt64, math.MaxInt64, 1 << 32} {
		if got, ok := impl.LeaveOf(exampleTable(), column, 0); ok || got != 0 {
			t.Errorf("LeaveOf column %d: got %d, %v", column, got, ok)
		}
	}
	for _, near := range append(notFinite(), -1, -least) {
		if got, ok := impl.LeaveOf(exampleTable(), 0, near); ok || got != 0 {
			t.Errorf("LeaveOf near %v: got %d, %v", near, got, ok)
		}
	}
}

// TestLeaveLooksAtRowsOfTheBasis wants the row behind all passed over.
func TestLeaveLooksAtRowsOfTheBasis(t *testing.T) {
	table := lineTable([]int64{1, 2}, 1, 4, 1, 3)
	table.Numbers[8], table.Numbers[11] = 1, -5
	if got, ok := impl.LeaveOf(table, 0, 0); !ok || got != 1 {
		t.Errorf("LeaveOf: got %d, %v, want 1", got, ok)
	}
}

func TestPivotTable(t *testing.T) {
	minusZero := num(bitsMinusZero)
	for _, c := range []struct {
		table       impl.Table
		row, column int64
		want        impl.Table
	}{
		{exampleTable(), 1, 0, impl.Table{Vars: 2, Numbers: []float32{0, 1, 1, -1, 1, 1, 0, 0, 1, 3, 0, -1, 0, 2, 6}, Basis: []int64{2, 0}}},
		{
			impl.Table{Vars: 2, Numbers: []float32{2, 1, 1, 0, 4, 1, -1, 0, 1, 3, -2, -1, 0, 0, 0}, Basis: []int64{2, 3}}, 0, 0,
			impl.Table{Vars: 2, Numbers: []float32{1, 0.5, 0.5, 0, 2, 0, -1.5, -0.5, 1, 1, 0, 0, 1, 0, 4}, Basis: []int64{0, 3}},
		},
		// The row is divided by a negative number; a row with +0 in the column is reckoned with too.
		{
			impl.Table{Vars: 1, Numbers: []float32{-2, 0, 4, 0, minusZero, 5}, Basis: []int64{1}}, 0, 0,
			impl.Table{Vars: 1, Numbers: []float32{1, minusZero, -2, 0, 0, 5}, Basis: []int64{0}},
		},
		// +0 is left in the column, also for -0.
		{
			impl.Table{Vars: 1, Numbers: []float32{1, 1, 4, minusZero, minusZero, 5}, Basis: []int64{1}}, 0, 0,
			impl.Table{Vars: 1, Numbers: []float32{1, 1, 4, 0, 0, 5}, Basis: []int64{0}},
		},
		// The row's own Basis may be its column.
		{
			impl.Table{Vars: 1, Numbers: []float32{3, 2, 4, 1, 1, 5}, Basis: []int64{1}}, 0, 1,
			impl.Table{Vars: 1, Numbers: []float32{1.5, 1, 2, -0.5, 0, 3}, Basis: []int64{1}},
		},
		// The row as it is then is taken: it is rounded by the division, and products are rounded.
		{
			impl.Table{Vars: 1, Numbers: []float32{3, 1, num(0x40400002), num(0x3f800001), 0, num(0x3f800002)}, Basis: []int64{1}}, 0, 0,
			impl.Table{Vars: 1, Numbers: []float32{1, num(0x3eaaaaab), num(0x3f800001), 0, num(0xbeaaaaac), 0}, Basis: []int64{0}},
		},
		// The least number divides as well as others.
		{
			impl.Table{Vars: 1, Numbers: []float32{num(bitsLeast), 0, num(bitsLeast), -1, 0, 0}, Basis: []int64{1}}, 0, 0,
			impl.Table{Vars: 1, Numbers: []float32{1, 0, 1, 0, 0, 1}, Basis: []int64{0}},
		},
	} {
		got, ok := impl.PivotTable(c.table, c.row, c.column)
		wantBool(t, "PivotTable "+tableText(c.table), ok, true)
		wantText(t, "PivotTable "+tableText(c.table), tableText(got), tableText(c.want))
	}
}

func TestPivotTableFails(t *testing.T) {
	most, least := num(bitsMost), num(bitsLeast)
	fails := func(what string, table impl.Table, row, column int64) {
		t.Helper()
		got, ok := impl.PivotTable(table, row, column)
		wantBool(t, what, ok, false)
		wantText(t, what, tableText(got), tableText(impl.Table{}))
	}
	for _, row := range []int64{-1, 2, 3, math.MinInt64, math.MaxInt64, 1 << 32} {
		fails("PivotTable of no row", exampleTable(), row, 0)
	}
	for _, column := range []int64{-1, 4, 5, math.MinInt64, math.MaxInt64, 1 << 32} {
		fails("PivotTable of no column", exampleTable(), 0, column)
	}
	fails("PivotTable at +0", exampleTable(), 1, 1)
	fails("PivotTable at -0", lineTable([]int64{1}, num(bitsMinusZero), 1), 0, 0)
	table := exampleTable()
	table.Numbers[3] = 1
	fails("PivotTable to a column of the Basis", table, 0, 3)
	fails("PivotTable with a quotient that is not finite", lineTable([]int64{1}, least, 1), 0, 0)
	fails("PivotTable with a product that is not finite", impl.Table{Vars: 1, Numbers: []float32{1, 0, most, most, 0, 0}, Basis: []int64{1}}, 0, 0)
	fails("PivotTable with a difference that is not finite", impl.Table{Vars: 1, Numbers: []float32{1, 0, most, 1, 0, -most}, Basis: []int64{1}}, 0, 0)
}

func TestPlanAndPricesOf(t *testing.T) {
	minusZero := num(bitsMinusZero)
	table := impl.Table{Vars: 3, Basis: []int64{4, 2, 0}, Numbers: []float32{
		1, 2, 3, 4, 5, 6, -7,
		8, 9, 10, 11, 12, 13, -14,
		15, 16, 17, 18, 19, 20, minusZero,
		21, 22, 23, 24, minusZero, 26, 27,
	}}
	plan, ok := impl.PlanOf(table)
	wantBool(t, "PlanOf", ok, true)
	wantText(t, "PlanOf", hexList(plan), hexList([]float32{minusZero, 0, -14}))
	prices, ok := impl.PricesOf(table)
	wantBool(t, "PricesOf", ok, true)
	wantText(t, "PricesOf", hexList(prices), hexList([]float32{24, minusZero, 26}))
	plan, ok = impl.PlanOf(exampleTable())
	wantBool(t, "PlanOf", ok, true)
	wantText(t, "PlanOf", hexList(plan), "00000000 00000000")
}
