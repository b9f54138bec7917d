package tests

import (
	"fmt"
	"math"
	"math/big"
	"testing"

	"loop.example/g01346/impl"
)

// This file is about promise 3: best plans keep their rows, and prices tell
// the same gain, nearly. What is best is found with exact fractions.

func TestSolveTable(t *testing.T) {
	solved, steps, ok := impl.SolveTable(exampleTable(), 64, 0)
	wantBool(t, "SolveTable", ok && steps == 2, true)
	want := impl.Table{Vars: 2, Numbers: []float32{0, 1, 1, -1, 1, 1, 0, 0, 1, 3, 0, 0, 1, 1, 7}, Basis: []int64{1, 0}}
	wantText(t, "SolveTable", tableText(solved), tableText(want))
	again, steps, ok := impl.SolveTable(solved, 0, 0)
	wantBool(t, "SolveTable of a best table, and no pivots", ok && steps == 0, true)
	wantText(t, "SolveTable of a best table, and no pivots", tableText(again), tableText(solved))
	_, steps, ok = impl.SolveTable(exampleTable(), 2, 0)
	wantBool(t, "SolveTable with just as many pivots", ok && steps == 2, true)
	_, steps, ok = impl.SolveTable(exampleTable(), 64, 2)
	wantBool(t, "SolveTable with all near enough", ok && steps == 0, true)
	// A pivot that is not valid makes it fail: column 2 is in the Basis of the other row.
	stuck := impl.Table{Vars: 2, Numbers: []float32{1, 1, 2, 0, 4, 1, 0, 1, 1, 3, 0, 0, -1, 0, 0}, Basis: []int64{0, 2}}
	open := impl.Table{Vars: 1, Numbers: []float32{-1, 1, 3, -1, 0, 0}, Basis: []int64{1}}
	for _, c := range []struct {
		what  string
		table impl.Table
		most  int64
		near  float32
	}{
		{"one pivot too few", exampleTable(), 1, 0}, {"no pivots", exampleTable(), 0, 0}, {"without end", open, 64, 0}, {"a pivot fails", stuck, 64, 0},
		{"most of -1", solved, -1, 0}, {"most of 65", solved, 65, 0}, {"most far too small", solved, math.MinInt64, 0}, {"most far too great", solved, math.MaxInt64, 0},
		{"near less than 0", solved, 64, -num(bitsLeast)}, {"near of a not-a-number", solved, 64, num(bitsNaN)},
		{"near of an infinity", solved, 64, num(bitsInf)}, {"near of a negative infinity", solved, 64, num(bitsMinusInf)},
	} {
		got, steps, ok := impl.SolveTable(c.table, c.most, c.near)
		wantBool(t, "SolveTable, "+c.what, ok || steps != 0, false)
		wantText(t, "SolveTable, "+c.what, tableText(got), tableText(impl.Table{}))
	}
}

func TestSolveRows(t *testing.T) {
	least := num(bitsLeast)
	for _, c := range []struct {
		rows         impl.Rows
		plan, prices []float32
	}{
		{exampleRows(), []float32{3, 1}, []float32{1, 1}},
		{oneRow(5, []float32{2}, []float32{1}), []float32{2.5}, []float32{0.5}},
		{oneRow(5, []float32{2}, []float32{0}), []float32{0}, []float32{0}}, {oneRow(5, []float32{2}, []float32{-1}), []float32{0}, []float32{0}},
		{oneRow(5, []float32{-2}, []float32{-1}), []float32{0}, []float32{0}}, // without an end, but not for a gain
		// Bounds of nothing.
		{oneRow(0, []float32{1}, []float32{1}), []float32{0}, []float32{1}}, {oneRow(num(bitsMinusZero), []float32{2}, []float32{1}), []float32{num(bitsMinusZero)}, []float32{0.5}},
		{impl.Rows{Vars: 2, Numbers: []float32{1, -1, -1, 1}, Bounds: []float32{0, 0}, Gains: []float32{1, -1}}, []float32{0, 0}, []float32{1, 0}},
		{oneRow(least, []float32{1}, []float32{1}), []float32{least}, []float32{1}},
		// Equal quotients: the first row leaves, and the second one has nothing left.
		{impl.Rows{Vars: 1, Numbers: []float32{1, 2}, Bounds: []float32{2, 4}, Gains: []float32{2}}, []float32{2}, []float32{2, 0}},
		{fullRows(), []float32{1, 0, 0, 0, 0, 0, 0, 0}, []float32{1, 0, 0, 0, 0, 0, 0, 0}},
	} {
		plan, prices, ok := impl.SolveRows(c.rows, 64, 0)
		wantBool(t, "SolveRows "+rowsText(c.rows), ok, true)
		wantText(t, "SolveRows "+rowsText(c.rows), hexList(plan)+"; "+hexList(prices), hexList(c.plan)+"; "+hexList(c.prices))
	}
	open := oneRow(3, []float32{1, 0}, []float32{2, 1})
	for _, c := range []struct {
		rows impl.Rows
		most int64
		near float32
	}{
		{open, 64, 0}, {exampleRows(), 1, 0}, {exampleRows(), -1, 0}, {exampleRows(), 65, 0}, {exampleRows(), 64, -1},
		{exampleRows(), 64, num(bitsNaN)}, {exampleRows(), 64, num(bitsInf)},
		{oneRow(num(bitsMost), []float32{0.5}, []float32{1}), 64, 0}, // the plan would be an infinity
	} {
		plan, prices, ok := impl.SolveRows(c.rows, c.most, c.near)
		wantBool(t, "SolveRows "+rowsText(c.rows), ok || len(plan) != 0 || len(prices) != 0, false)
	}
}

// TestEqualQuotientsComeToAnEnd solves rows on which pivots would go round if
// equal quotients and columns were not told by the least Basis and index.
func TestEqualQuotientsComeToAnEnd(t *testing.T) {
	r := impl.Rows{
		Vars:    4,
		Numbers: []float32{0.5, -5.5, -2.5, 9, 0.5, -1.5, -0.5, 1, 1, 0, 0, 0},
		Bounds:  []float32{0, 0, 1}, Gains: []float32{10, -57, -9, -24},
	}
	plan, prices, ok := impl.SolveRows(r, 64, 0)
	wantBool(t, "SolveRows", ok, true)
	gain, _ := impl.GainOf(r, plan)
	wantText(t, "the plan", hexList(plan)+" "+hex(gain), hexList([]float32{1, 0, 1, 0, 1}))
	wantBool(t, "the prices", impl.ArePrices(r, prices, 0), true)
	gap, ok := impl.PriceGap(r, plan, prices)
	wantBool(t, "the gap", ok && gap == 0, true)
}

func TestRayOf(t *testing.T) {
	minusZero := num(bitsMinusZero)
	open, _ := impl.DropRow(exampleRows(), 0)
	for _, c := range []struct {
		rows impl.Rows
		most int64
		near float32
		ray  []float32
	}{
		{open, 64, 0, []float32{minusZero, 1}}, {open, 2, 0, []float32{minusZero, 1}},
		{oneRow(1, []float32{-1}, []float32{1}), 1, 0, []float32{1}}, {oneRow(0, []float32{0}, []float32{1}), 64, 0, []float32{1}},
		{oneRow(1, []float32{1, -2}, []float32{1, 1}), 64, 0, []float32{2, 1}},
		// The row's own column enters: a number without a row has +0.
		{oneRow(1, []float32{0, 1, -1, 0}, []float32{0, 1, 0, 0}), 64, 0, []float32{0, 1, 1, 0}},
		{oneRow(1, []float32{0.5, -1}, []float32{1, 0}), 64, 0.25, []float32{2, 1}},
		{oneRow(3, []float32{0.25}, []float32{1}), 64, 0.25, []float32{1}}, // near enough to a ray
	} {
		ray, ok := impl.RayOf(c.rows, c.most, c.near)
		wantBool(t, "RayOf "+rowsText(c.rows), ok, true)
		wantText(t, "RayOf "+rowsText(c.rows), hexList(ray), hexList(c.ray))
	}
	for _, c := range []struct {
		rows impl.Rows
		most int64
		near float32
	}{
		{exampleRows(), 64, 0}, {exampleRows(), 1, 0}, {open, 0, 0}, {open, 1, 0}, {open, -1, 0}, {open, 65, 0}, {open, 64, -1}, {open, 64, num(bitsNaN)},
		{open, 64, num(bitsInf)}, {open, 64, 2}, {oneRow(1, []float32{-1}, []float32{0}), 64, 0}, {oneRow(1, []float32{-1}, []float32{-1}), 64, 0},
		{oneRow(1, []float32{num(bitsLeast), -1}, []float32{1, 0}), 64, 0}, // the pivot would not be finite
	} {
		if ray, ok := impl.RayOf(c.rows, c.most, c.near); ok || len(ray) != 0 {
			t.Errorf("RayOf %s, most %d, near %v: got %v, %v", rowsText(c.rows), c.most, c.near, ray, ok)
		}
	}
}

func TestIsRay(t *testing.T) {
	most, least := num(bitsMost), num(bitsLeast)
	open := oneRow(3, []float32{1, 0}, []float32{2, 1})
	for _, c := range []struct {
		rows impl.Rows
		ray  []float32
		near float32
		want bool
	}{
		{open, []float32{0, 1}, 0, true}, {open, []float32{num(bitsMinusZero), 1}, 0, true}, {open, []float32{0, least}, num(bitsMinusZero), true},
		{open, []float32{0, 0}, 0, false}, {open, []float32{1, 1}, 0, false}, {open, []float32{least, 1}, 0, false}, {open, []float32{least, 1}, least, true},
		{open, []float32{0, 1}, 1, false}, {open, []float32{0, num(0x3f800001)}, 1, true}, {open, []float32{1, 1}, 1, true}, {open, []float32{num(0x3f800001), 1}, 1, false},
		{open, []float32{-least, 1}, 0, false}, {open, []float32{-least, 1}, least, true}, {open, []float32{-1, 4}, 1, true}, {open, []float32{num(0xbf800001), 4}, 1, false},
		{open, []float32{0, 1}, -1, false}, {oneRow(0, []float32{-1}, []float32{1}), []float32{2}, -1, false}, {open, []float32{0, 1}, num(bitsNaN), false}, {open, []float32{0, 1}, num(bitsInf), false}, {open, []float32{0, 1}, num(bitsMinusInf), false},
		{open, []float32{1}, 0, false}, {open, []float32{0, 1, 0}, 0, false}, {open, nil, 0, false}, {open, []float32{0, num(bitsInf)}, 0, false}, {open, []float32{num(bitsNaN), 1}, 0, false},
		{exampleRows(), []float32{0, 1}, 0, false}, {exampleRows(), []float32{0, 1}, 0.5, false},
		{oneRow(0, []float32{-most}, []float32{1}), []float32{2}, 0, false}, {oneRow(0, []float32{-1}, []float32{most}), []float32{2}, 0, false}, // a sum is not finite
		{oneRow(0, []float32{-most}, []float32{1}), []float32{1}, 0, true},
		{impl.Rows{Vars: 1, Numbers: []float32{-1, 1}, Bounds: []float32{0, 0}, Gains: []float32{1}}, []float32{1}, 0, false},
	} {
		if got := impl.IsRay(c.rows, c.ray, c.near); got != c.want {
			t.Errorf("IsRay %s, %v near %v: got %v", rowsText(c.rows), c.ray, c.near, got)
		}
	}
}

func TestPriceGap(t *testing.T) {
	most := num(bitsMost)
	for _, c := range []struct {
		rows impl.Rows
		x, y []float32
		want uint32
	}{
		{exampleRows(), []float32{3, 1}, []float32{1, 1}, bitsZero}, {exampleRows(), []float32{0, 0}, []float32{1, 1}, 0x40e00000},
		{exampleRows(), []float32{3, 1}, []float32{0, 0}, 0xc0e00000}, {exampleRows(), []float32{-1, -1}, []float32{-1, -1}, 0xc0800000},
		{oneRow(num(bitsMinusZero), []float32{1}, []float32{num(bitsMinusZero)}), []float32{1}, []float32{1}, bitsZero}, // both sums begin with +0
		{oneRow(most, []float32{1}, []float32{most}), []float32{1}, []float32{1}, bitsZero},
	} {
		gap, ok := impl.PriceGap(c.rows, c.x, c.y)
		wantBool(t, "PriceGap", ok, true)
		wantNumber(t, "PriceGap", gap, c.want)
	}
	r := exampleRows()
	for _, c := range []struct {
		rows impl.Rows
		x, y []float32
	}{
		{r, []float32{1}, []float32{1, 1}}, {r, []float32{1, 1, 1}, []float32{1, 1}}, {r, []float32{1, 1}, []float32{1}}, {r, []float32{1, 1}, []float32{1, 1, 1}},
		{r, nil, nil}, {r, []float32{num(bitsNaN), 1}, []float32{1, 1}}, {r, []float32{1, 1}, []float32{1, num(bitsNaN)}}, {r, []float32{1, 1}, []float32{num(bitsInf), 1}},
		{oneRow(1, []float32{1}, []float32{most}), []float32{2}, []float32{0}}, {oneRow(most, []float32{1}, []float32{1}), []float32{0}, []float32{2}},
		{oneRow(most, []float32{1}, []float32{most}), []float32{-1}, []float32{1}}, {oneRow(most, []float32{1}, []float32{most}), []float32{2}, []float32{2}},
	} {
		gap, ok := impl.PriceGap(c.rows, c.x, c.y)
		wantBool(t, "PriceGap "+rowsText(c.rows), ok, false)
		wantNumber(t, "PriceGap", gap, bitsZero)
	}
}

func TestArePrices(t *testing.T) {
	most, least := num(bitsMost), num(bitsLeast)
	for _, c := range []struct {
		rows impl.Rows
		y    []float32
		near float32
		want bool
	}{
		{exampleRows(), []float32{1, 1}, 0, true}, {exampleRows(), []float32{2, 0}, num(bitsMinusZero), true}, {exampleRows(), []float32{0, 2}, 0, false},
		{exampleRows(), []float32{1, 0.75}, 0, false}, {exampleRows(), []float32{1, 0.75}, 0.25, true}, {exampleRows(), []float32{1, 0.75}, 0.2, false},
		{exampleRows(), []float32{1, 0.75}, num(0x3e7fffff), true}, // the gain less near is rounded
		{exampleRows(), []float32{0.5, 1.5}, 0.5, true}, {exampleRows(), []float32{0.5, 1.5}, 0.25, false},
		{exampleRows(), []float32{3, -1}, 0, false}, {exampleRows(), []float32{3, -1}, 1, true}, {exampleRows(), []float32{3, -least}, 0, false}, {exampleRows(), []float32{3, -least}, least, true},
		{exampleRows(), []float32{1}, 0, false}, {exampleRows(), []float32{1, 1, 1}, 0, false}, {exampleRows(), nil, 0, false},
		{exampleRows(), []float32{num(bitsNaN), 1}, 0, false}, {exampleRows(), []float32{1, num(bitsInf)}, 0, false},
		{exampleRows(), []float32{1, 1}, -1, false}, {exampleRows(), []float32{1, 1}, num(bitsNaN), false}, {exampleRows(), []float32{1, 1}, num(bitsInf), false},
		{oneRow(0, []float32{most}, []float32{1}), []float32{1}, 0, true}, {oneRow(0, []float32{most}, []float32{1}), []float32{2}, 0, false}, // the sum is not finite
		{oneRow(0, []float32{0}, []float32{0}), []float32{0}, 0, true}, {oneRow(0, []float32{0}, []float32{least}), []float32{0}, 0, false},
		// The numbers of a variable are those of its column.
		{impl.Rows{Vars: 2, Numbers: []float32{1, 0, 5, 1}, Bounds: []float32{1, 1}, Gains: []float32{6, 1}}, []float32{1, 1}, 0, true},
		{impl.Rows{Vars: 2, Numbers: []float32{1, 5, 0, 1}, Bounds: []float32{1, 1}, Gains: []float32{6, 1}}, []float32{1, 1}, 0, false},
	} {
		if got := impl.ArePrices(c.rows, c.y, c.near); got != c.want {
			t.Errorf("ArePrices %s, %v near %v: got %v", rowsText(c.rows), c.y, c.near, got)
		}
	}
}

func TestBoundRange(t *testing.T) {
	most := num(bitsMost)
	for _, c := range []struct {
		rows      impl.Rows
		i         int64
		near      float32
		low, high float32
	}{
		{exampleRows(), 0, 0, 3, 1000004}, {exampleRows(), 1, 0, 0, 4},
		// The row has something left: its bound can become less by this.
		{oneRow(5, []float32{2}, []float32{-1}), 0, 0, 0, 1000005}, {oneRow(5, []float32{2}, []float32{1}), 0, 0, 0, 1000005},
		{impl.Rows{Vars: 1, Numbers: []float32{1, 1}, Bounds: []float32{2, 5}, Gains: []float32{1}}, 1, 0, 2, 1000005},
		{impl.Rows{Vars: 1, Numbers: []float32{1, 1}, Bounds: []float32{2, 5}, Gains: []float32{1}}, 0, 0, 0, 5},
		// None is greater than near, and none less than its opposite: the bound less itself.
		{oneRow(5, []float32{2}, []float32{-1}), 0, 1, 0, 1000005}, {oneRow(5, []float32{2}, []float32{1}), 0, 1, 0, 1000005},
		{oneRow(5, []float32{2}, []float32{1}), 0, 0.5, 0, 1000005}, {oneRow(5, []float32{2}, []float32{1}), 0, num(0x3effffff), 0, 1000005},
		// Bounds of nothing.
		{oneRow(0, []float32{1}, []float32{1}), 0, 0, 0, 1000000}, {impl.Rows{Vars: 1, Numbers: []float32{1, 1}, Bounds: []float32{0, 0}, Gains: []float32{1}}, 0, 0, 0, 0},
		{oneRow(num(bitsMinusZero), []float32{1}, []float32{-1}), 0, 0, 0, 1000000}, {oneRow(num(bitsMinusZero), []float32{1}, []float32{-1}), 0, 1, 0, 1000000},
		{oneRow(most, []float32{1}, []float32{-1}), 0, 1, 0, most}, // the bound and 1000000 are rounded
	} {
		low, high, ok := impl.BoundRange(c.rows, c.i, 64, c.near)
		wantBool(t, "BoundRange "+rowsText(c.rows), ok, true)
		wantText(t, "BoundRange "+rowsText(c.rows), hexList([]float32{low, high}), hexList([]float32{c.low, c.high}))
	}
	open := oneRow(3, []float32{1, 0}, []float32{2, 1})
	for _, c := range []struct {
		rows    impl.Rows
		i, most int64
		near    float32
	}{
		{exampleRows(), -1, 64, 0}, {exampleRows(), 2, 64, 0}, {exampleRows(), math.MinInt64, 64, 0}, {exampleRows(), math.MaxInt64, 64, 0}, {exampleRows(), 1 << 32, 64, 0},
		{exampleRows(), 0, 1, 0}, {exampleRows(), 0, -1, 0}, {exampleRows(), 0, 65, 0}, {exampleRows(), 0, 64, -1}, {exampleRows(), 0, 64, num(bitsNaN)}, {exampleRows(), 0, 64, num(bitsInf)},
		{open, 0, 64, 0}, {oneRow(num(bitsMost), []float32{num(bitsMost)}, []float32{1}), 0, 64, 0}, // the only quotient is an infinity
	} {
		low, high, ok := impl.BoundRange(c.rows, c.i, c.most, c.near)
		wantBool(t, fmt.Sprintf("BoundRange %s %d %d %v", rowsText(c.rows), c.i, c.most, c.near), ok || low != 0 || high != 0, false)
	}
}

func TestBestCorner(t *testing.T) {
	most, minusZero := num(bitsMost), num(bitsMinusZero)
	for _, c := range []struct {
		rows impl.Rows
		near float32
		want []float32
	}{
		{exampleRows(), 0, []float32{3, 1}}, {exampleRows(), minusZero, []float32{3, 1}}, {exampleRows(), num(0x3f7fffff), []float32{3, 1}},
		// Of equal ones the first pair of lines, rows before numbers.
		{oneRow(3, []float32{1, 0}, []float32{0, 1}), 0, []float32{3, 0}}, {oneRow(3, []float32{1, 1}, []float32{1, 1}), 0, []float32{minusZero, 3}}, // +0 divided by -1
		{impl.Rows{Vars: 2, Numbers: []float32{1, 1, 1, 1}, Bounds: []float32{3, 3}, Gains: []float32{0, 0}}, 0, []float32{minusZero, 3}},
		{oneRow(0, []float32{-1, 1}, []float32{-1, -1}), 0, []float32{minusZero, 0}},
		{oneRow(5, []float32{0, 0}, []float32{1, 1}), 0, []float32{0, 0}},
		// A corner whose gain is not finite is passed over, and so is one that is none nearly.
		{oneRow(2, []float32{1, 0}, []float32{most, 0}), 0, []float32{0, 0}},
		{oneRow(2, []float32{0.5, 1}, []float32{1, 0}), 0.5, []float32{minusZero, 2}}, {oneRow(2, []float32{0.5, 1}, []float32{1, 0}), 0.25, []float32{4, 0}},
		// Near a plan is enough.
		{impl.Rows{Vars: 2, Numbers: []float32{2, 0, 0, 2, 2, 2}, Bounds: []float32{2, 2, 3}, Gains: []float32{1, 1}}, 1, []float32{1, 1}},
		{impl.Rows{Vars: 2, Numbers: []float32{1, 1, 1, -1}, Bounds: []float32{1, 1.5}, Gains: []float32{1, 0}}, 0, []float32{1, 0}},
		{impl.Rows{Vars: 2, Numbers: []float32{1, 1, 1, -1}, Bounds: []float32{1, 1.5}, Gains: []float32{1, 0}}, 0.25, []float32{1.25, -0.25}},
	} {
		got, ok := impl.BestCorner(c.rows, c.near)
		wantBool(t, "BestCorner "+rowsText(c.rows), ok, true)
		wantText(t, "BestCorner "+rowsText(c.rows), hexList(got), hexList(c.want))
	}
	for _, c := range []struct {
		rows impl.Rows
		near float32
	}{
		{exampleRows(), 1}, {exampleRows(), most}, {exampleRows(), -1}, {exampleRows(), -num(bitsLeast)}, {exampleRows(), num(bitsNaN)}, {exampleRows(), num(bitsInf)},
		{exampleRows(), num(bitsMinusInf)}, {oneRow(1, []float32{1}, []float32{1}), 0}, {oneRow(1, []float32{1, 1, 1}, []float32{1, 1, 1}), 0}, {fullRows(), 0},
	} {
		if got, ok := impl.BestCorner(c.rows, c.near); ok || len(got) != 0 {
			t.Errorf("BestCorner %s near %v: got %v, %v", rowsText(c.rows), c.near, got, ok)
		}
	}
}

// smallRows returns rows of small integers, with at most 3 rows and numbers.
func smallRows(n int) []impl.Rows {
	state := sequence(5)
	var list []impl.Rows
	for range n {
		vars, rows := 1+state.below(3), 1+state.below(3)
		r := impl.Rows{Vars: int64(vars)}
		for range vars * rows {
			r.Numbers = append(r.Numbers, float32(state.below(9)-3))
		}
		for range rows {
			r.Bounds = append(r.Bounds, float32(state.below(8)))
		}
		for range vars {
			r.Gains = append(r.Gains, float32(state.below(9)-3))
		}
		list = append(list, r)
	}
	return list
}

// exactBest returns the greatest gain of all corners of rows, exactly: there is
// one, as nothing is a plan, and it is the best gain if there is no ray.
func exactBest(r impl.Rows) *big.Rat {
	var lines [][]*big.Rat // the numbers of a line, and its bound
	vars := int(r.Vars)
	for i, bound := range r.Bounds {
		lines = append(lines, exactList(append(r.Numbers[i*vars:(i+1)*vars:(i+1)*vars], bound)))
	}
	for k := range vars {
		line := make([]float32, vars+1)
		line[k] = -1
		lines = append(lines, exactList(line))
	}
	var best *big.Rat
	for set := range 1 << len(lines) {
		var some [][]*big.Rat
		for i, line := range lines {
			if set>>i&1 == 1 {
				some = append(some, line)
			}
		}
		if len(some) != vars {
			continue
		}
		if x := exactMeet(some); x != nil && exactKeeps(lines, x) {
			if gain := exactDot(exactList(r.Gains), x); best == nil || gain.Cmp(best) > 0 {
				best = gain
			}
		}
	}
	return best
}

func exactList(list []float32) []*big.Rat {
	var all []*big.Rat
	for _, x := range list {
		all = append(all, new(big.Rat).SetFloat64(float64(x)))
	}
	return all
}

func exactDot(a, x []*big.Rat) *big.Rat {
	sum := new(big.Rat)
	for k, y := range x {
		sum.Add(sum, new(big.Rat).Mul(a[k], y))
	}
	return sum
}

func exactKeeps(lines [][]*big.Rat, x []*big.Rat) bool {
	for _, line := range lines {
		if exactDot(line, x).Cmp(line[len(x)]) > 0 {
			return false
		}
	}
	return true
}

// exactMeet returns the only point on all lines, or nil.
func exactMeet(some [][]*big.Rat) []*big.Rat {
	n := len(some)
	rows := make([][]*big.Rat, n)
	for i, line := range some {
		for _, x := range line {
			rows[i] = append(rows[i], new(big.Rat).Set(x))
		}
	}
	for k := range n {
		from := k
		for from < n && rows[from][k].Sign() == 0 {
			from++
		}
		if from == n {
			return nil
		}
		rows[k], rows[from] = rows[from], rows[k]
		for i := range n {
			if i == k {
				continue
			}
			times := new(big.Rat).Quo(rows[i][k], rows[k][k])
			for c := range rows[i] {
				rows[i][c].Sub(rows[i][c], new(big.Rat).Mul(times, rows[k][c]))
			}
		}
	}
	var x []*big.Rat
	for k := range n {
		x = append(x, new(big.Rat).Quo(rows[k][n], rows[k][k]))
	}
	return x
}

// TestBestPlansKeepRowsAndPricesTellTheGain is promise 3.
func TestBestPlansKeepRowsAndPricesTellTheGain(t *testing.T) {
	const nearly, near = 1e-4, 0x1p-18
	solved, rays, corners := 0, 0, 0
	for _, r := range smallRows(3000) {
		plan, prices, ok := impl.SolveRows(r, 64, near)
		ray, open := impl.RayOf(r, 64, near)
		if ok == open {
			t.Fatalf("%v: a best plan: %v, a ray: %v", r, ok, open)
		}
		if open {
			rays++
			wantBool(t, fmt.Sprint(r, " ray ", ray), impl.IsRay(r, ray, nearly), true)
			continue
		}
		solved++
		wantBool(t, fmt.Sprint(r, " plan ", plan), impl.IsPlan(r, plan, nearly), true)
		wantBool(t, fmt.Sprint(r, " prices ", prices), impl.ArePrices(r, prices, nearly), true)
		gap, ok := impl.PriceGap(r, plan, prices)
		wantBool(t, fmt.Sprint(r, " gap ", gap), ok && math.Abs(float64(gap)) < nearly, true)
		gain, _ := impl.GainOf(r, plan)
		best, _ := exactBest(r).Float64()
		wantBool(t, fmt.Sprint(r, " gain ", gain, " best ", best), math.Abs(float64(gain)-best) < nearly, true)
		if r.Vars == 2 {
			corners++
			corner, ok := impl.BestCorner(r, near)
			gain, _ := impl.GainOf(r, corner)
			wantBool(t, fmt.Sprint(r, " corner ", corner), ok && math.Abs(float64(gain)-best) < nearly, true)
		}
	}
	if solved < 500 || rays < 500 || corners < 100 {
		t.Errorf("%d solved rows, %d rays and %d corners are too few", solved, rays, corners)
	}
}

// TestRangesKeepTheBasis moves a bound within its range, and wants the same
// Basis still best; and so it wants the gain to change by the price.
func TestRangesKeepTheBasis(t *testing.T) {
	const near = 0x1p-18
	moved := 0
	for _, r := range smallRows(2000) {
		_, prices, _ := impl.SolveRows(r, 64, near)
		for i := range prices {
			low, high, ok := impl.BoundRange(r, int64(i), 64, near)
			wantBool(t, "BoundRange", ok && low <= r.Bounds[i]+near && r.Bounds[i] <= high+near, true)
			low, high = max(low, 0), min(high, 100)
			moved++
			before, _ := exactBest(r).Float64()
			for _, bound := range []float32{low, (low + high) / 2, high} {
				other := copyRows(r)
				other.Bounds[i] = bound
				after, _ := exactBest(other).Float64()
				change := float64(prices[i]) * float64(bound-r.Bounds[i])
				wantBool(t, fmt.Sprint(r, i, low, high, " to ", bound), math.Abs(after-before-change) < 1e-4, true)
			}
		}
	}
	if moved < 1000 {
		t.Errorf("%d bounds moved are too few", moved)
	}
}

// TestPivotsAreCounted wants as many pivots as are told to be enough, and one
// fewer not to be, also for rows that need more than the limit.
func TestPivotsAreCounted(t *testing.T) {
	many := 0
	for _, r := range manyRows(2000) {
		table, _ := impl.TableOf(r)
		_, steps, ok := impl.SolveTable(table, 64, 0x1p-20)
		if !ok || steps == 0 {
			continue
		}
		_, again, enough := impl.SolveTable(table, steps, 0x1p-20)
		_, _, fewer := impl.SolveTable(table, steps-1, 0x1p-20)
		wantBool(t, "SolveTable", enough && again == steps && !fewer, true)
		if steps >= 4 {
			many++
		}
	}
	if many < 50 {
		t.Errorf("%d tables with 4 pivots or more are too few", many)
	}
	long := longRows(8)
	_, _, column, ok := modelOfRows(long).solve(64, 0)
	_, steps, _, more := modelOfRows(long).solve(1000, 0)
	if ok || !more || column > 0 || steps <= 64 {
		t.Fatalf("the rows that need many pivots need %d", steps)
	}
	plan, prices, ok := impl.SolveRows(long, 64, 0)
	wantBool(t, "SolveRows beyond the limit", ok || len(plan)+len(prices) > 0, false)
}

// longRows returns rows on which the first column that enters is a bad one,
// again and again.
func longRows(n int) impl.Rows {
	r := impl.Rows{Vars: int64(n)}
	for i := range n {
		for k := range n {
			x := 0.0
			if k < i {
				x = math.Ldexp(2, i-k)
			} else if k == i {
				x = 1
			}
			r.Numbers = append(r.Numbers, float32(x))
		}
		r.Bounds = append(r.Bounds, float32(math.Pow(5, float64(i+1))))
		r.Gains = append(r.Gains, float32(math.Ldexp(1, n-1-i)))
	}
	return r
}
