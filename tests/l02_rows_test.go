package tests

import (
	"math"
	"slices"
	"testing"

	"loop.example/g01346/impl"
)

// exampleRows are the rows of the document's example.
func exampleRows() impl.Rows {
	return impl.Rows{Vars: 2, Numbers: []float32{1, 1, 1, 0}, Bounds: []float32{4, 3}, Gains: []float32{2, 1}}
}

// fullRows are rows at both limits.
func fullRows() impl.Rows {
	return impl.Rows{Vars: 8, Numbers: repeat(64, float32(1)), Bounds: repeat(8, float32(1)), Gains: repeat(8, float32(1))}
}

// oneRow returns a row of its own.
func oneRow(bound float32, row, gains []float32) impl.Rows {
	return impl.Rows{Vars: int64(len(gains)), Numbers: row, Bounds: []float32{bound}, Gains: gains}
}

func copyRows(r impl.Rows) impl.Rows {
	return impl.Rows{Vars: r.Vars, Numbers: slices.Clone(r.Numbers), Bounds: slices.Clone(r.Bounds), Gains: slices.Clone(r.Gains)}
}

func rowsText(r impl.Rows) string {
	return hexList([]float32{float32(r.Vars)}) + "; " + hexList(r.Numbers) + "; " + hexList(r.Bounds) + "; " + hexList(r.Gains)
}

func notFinite() []float32 { return []float32{num(bitsNaN), num(bitsInf), num(bitsMinusInf)} }

// invalidRows are the example's rows with one thing wrong.
func invalidRows() []impl.Rows {
	list := []impl.Rows{
		{}, {Vars: 1}, {Vars: 2, Bounds: []float32{4, 3}},
		{Vars: 9, Numbers: repeat(9, float32(1)), Bounds: []float32{1}, Gains: repeat(9, float32(1))},
		{Vars: 1, Numbers: repeat(9, float32(1)), Bounds: repeat(9, float32(1)), Gains: []float32{1}},
		{Vars: 0, Bounds: []float32{1}}, {Vars: 1, Gains: []float32{1}},
	}
	for _, vars := range []int64{0, -1, 1, 3, 4, 9, math.MinInt64, math.MaxInt64, 1 << 32, 1<<32 + 2, 1<<63 - 2} {
		r := exampleRows()
		r.Vars = vars
		list = append(list, r)
	}
	change := func(how func(r *impl.Rows)) {
		r := exampleRows()
		how(&r)
		list = append(list, r)
	}
	change(func(r *impl.Rows) { r.Numbers = r.Numbers[:3] })
	change(func(r *impl.Rows) { r.Numbers = append(r.Numbers, 1) })
	change(func(r *impl.Rows) { r.Numbers = append(r.Numbers, 1, 1) })
	change(func(r *impl.Rows) { r.Numbers = nil })
	change(func(r *impl.Rows) { r.Bounds = r.Bounds[:1] })
	change(func(r *impl.Rows) { r.Bounds = append(r.Bounds, 1) })
	change(func(r *impl.Rows) { r.Bounds = nil })
	change(func(r *impl.Rows) { r.Gains = r.Gains[:1] })
	change(func(r *impl.Rows) { r.Gains = append(r.Gains, 1) })
	change(func(r *impl.Rows) { r.Gains = nil })
	change(func(r *impl.Rows) { r.Bounds[0] = -1 })
	change(func(r *impl.Rows) { r.Bounds[1] = -num(bitsLeast) })
	for _, x := range notFinite() {
		for i := range 4 {
			change(func(r *impl.Rows) { r.Numbers[i] = x })
		}
		for i := range 2 {
			change(func(r *impl.Rows) { r.Bounds[i] = x })
			change(func(r *impl.Rows) { r.Gains[i] = x })
		}
	}
	return list
}

func TestLimitsOfChapter2(t *testing.T) {
	if impl.MaxVars != 8 || impl.MaxRows != 8 || impl.MaxPivots != 64 {
		t.Error("a limit differs from the document's")
	}
}

func TestValidRows(t *testing.T) {
	most, sub, minusZero := num(bitsMost), num(bitsLeast), num(bitsMinusZero)
	for _, r := range []impl.Rows{
		exampleRows(), fullRows(),
		oneRow(0, []float32{0}, []float32{0}), oneRow(minusZero, []float32{minusZero}, []float32{minusZero}),
		oneRow(most, []float32{-most}, []float32{most}), oneRow(sub, []float32{-sub}, []float32{sub}),
		oneRow(1, repeat(8, float32(1)), repeat(8, float32(1))),
		{Vars: 1, Numbers: repeat(8, float32(1)), Bounds: repeat(8, float32(1)), Gains: []float32{1}},
	} {
		wantBool(t, "ValidRows "+rowsText(r), impl.ValidRows(r), true)
	}
	for _, r := range invalidRows() {
		wantBool(t, "ValidRows "+rowsText(r), impl.ValidRows(r), false)
	}
}

func TestSameRows(t *testing.T) {
	r := exampleRows()
	wantBool(t, "SameRows", impl.SameRows(r, copyRows(r)), true)
	list := append(invalidRows(), r, fullRows())
	for i, a := range list {
		for k, b := range list {
			if i == k || rowsText(a) != rowsText(b) || a.Vars != b.Vars {
				wantBool(t, "SameRows "+rowsText(a)+" and "+rowsText(b), impl.SameRows(a, copyRows(b)), i == k)
			}
		}
	}
	zero, minusZero := oneRow(0, []float32{0}, []float32{0}), num(bitsMinusZero)
	for _, other := range []impl.Rows{
		oneRow(minusZero, []float32{0}, []float32{0}), oneRow(0, []float32{minusZero}, []float32{0}), oneRow(0, []float32{0}, []float32{minusZero}),
	} {
		wantBool(t, "SameRows, zeros", impl.SameRows(zero, other), false)
	}
	a, b := num(0x7f800001), num(0xffffffff)
	wantBool(t, "SameRows, not-a-numbers", impl.SameRows(oneRow(a, []float32{a}, []float32{a}), oneRow(b, []float32{b}, []float32{b})), true)
	wantBool(t, "SameRows, nil and empty", impl.SameRows(impl.Rows{}, impl.Rows{Numbers: []float32{}, Bounds: []float32{}, Gains: []float32{}}), true)
	wantBool(t, "SameRows, number in another list", impl.SameRows(impl.Rows{Numbers: []float32{1}}, impl.Rows{Bounds: []float32{1}}), false)
}

func TestGainOf(t *testing.T) {
	most, minusZero := num(bitsMost), num(bitsMinusZero)
	for _, c := range []struct {
		gains, x []float32
		want     uint32
	}{
		{[]float32{2, 1}, []float32{3, 1}, 0x40e00000},
		{[]float32{2, 1}, []float32{-3, -1}, 0xc0e00000},
		{[]float32{1, 16777216, -16777216}, []float32{1, 1, 1}, bitsZero}, // each sum is rounded, in order
		{[]float32{-16777216, 16777216, 1}, []float32{1, 1, 1}, bitsOne},
		{[]float32{minusZero}, []float32{1}, bitsZero}, {[]float32{1}, []float32{minusZero}, bitsZero}, // a sum begins with +0
		{[]float32{num(0x3f800001), -1}, []float32{num(0x3f800001), num(0x3f800002)}, bitsZero}, // a product is rounded before it is added
		{[]float32{most, -most}, []float32{1, 1}, bitsZero}, {[]float32{most}, []float32{1}, bitsMost},
		{[]float32{num(bitsLeast)}, []float32{0.5}, bitsZero},
	} {
		got, ok := impl.GainOf(oneRow(1, c.gains, c.gains), c.x)
		wantBool(t, "GainOf", ok, true)
		wantNumber(t, "GainOf", got, c.want)
	}
	for _, c := range []struct{ gains, x []float32 }{
		{[]float32{most}, []float32{2}}, {[]float32{most, most}, []float32{1, 1}}, {[]float32{most, most, -most}, []float32{1, 1, 1}},
		{[]float32{most, -most}, []float32{2, 2}}, {[]float32{1, 1}, []float32{1}}, {[]float32{1}, []float32{1, 1}}, {[]float32{1}, nil},
		{[]float32{0}, []float32{num(bitsNaN)}}, {[]float32{0}, []float32{num(bitsInf)}}, {[]float32{1}, []float32{num(bitsMinusInf)}},
	} {
		got, ok := impl.GainOf(oneRow(1, repeat(len(c.gains), float32(1)), c.gains), c.x)
		wantBool(t, "GainOf", ok, false)
		wantNumber(t, "GainOf", got, bitsZero)
	}
}

func TestLeftOf(t *testing.T) {
	most, minusZero := num(bitsMost), num(bitsMinusZero)
	left, ok := impl.LeftOf(exampleRows(), []float32{1, 1})
	wantBool(t, "LeftOf", ok, true)
	wantText(t, "LeftOf", hexList(left), "40000000 40000000")
	left, ok = impl.LeftOf(exampleRows(), []float32{-5, 3})
	wantBool(t, "LeftOf", ok, true)
	wantText(t, "LeftOf", hexList(left), "40c00000 41000000")
	for _, c := range []struct {
		bound  float32
		row, x []float32
		want   uint32
	}{
		{0, []float32{0}, []float32{1}, bitsZero}, {minusZero, []float32{0}, []float32{1}, bitsMinusZero},
		{minusZero, []float32{minusZero}, []float32{1}, bitsMinusZero}, {1, []float32{1}, []float32{1}, bitsZero},
		{1, []float32{1, 16777216, -16777216}, []float32{1, 1, 1}, bitsOne},
		{num(0x3f800002), []float32{num(0x3f800001)}, []float32{num(0x3f800001)}, bitsZero},
		{most, []float32{1}, []float32{1}, bitsMost},
	} {
		left, ok := impl.LeftOf(oneRow(c.bound, c.row, c.row), c.x)
		wantBool(t, "LeftOf", ok, true)
		wantText(t, "LeftOf", hexList(left), hex(num(c.want)))
	}
	for _, c := range []struct {
		bound  float32
		row, x []float32
	}{
		{1, []float32{most}, []float32{2}}, {1, []float32{most}, []float32{-2}}, {most, []float32{-most}, []float32{1}},
		{1, []float32{most, -most}, []float32{2, 2}}, {1, []float32{1}, nil}, {1, []float32{1}, []float32{1, 2}},
		{1, []float32{0}, []float32{num(bitsNaN)}}, {1, []float32{1}, []float32{num(bitsInf)}}, {1, []float32{1}, []float32{num(bitsMinusInf)}},
	} {
		left, ok := impl.LeftOf(oneRow(c.bound, c.row, repeat(len(c.row), float32(0))), c.x)
		if ok || len(left) != 0 {
			t.Errorf("LeftOf %v: got %v, %v", c, left, ok)
		}
	}
	r := impl.Rows{Vars: 1, Numbers: []float32{1, most}, Bounds: []float32{1, 1}, Gains: []float32{0}}
	if left, ok := impl.LeftOf(r, []float32{2}); ok || len(left) != 0 {
		t.Errorf("LeftOf, one row of two not finite: got %v, %v", left, ok)
	}
}

func TestIsPlan(t *testing.T) {
	r, minusZero := exampleRows(), num(bitsMinusZero)
	for _, c := range []struct {
		x    []float32
		near float32
		want bool
	}{
		{[]float32{3, 1}, 0, true}, {[]float32{4, 1}, 0, false}, {[]float32{4, 0}, 0, false}, {[]float32{0, 4}, 0, true}, {[]float32{0, 0}, minusZero, true},
		{[]float32{0, num(0x40800001)}, 0, false}, {[]float32{0, num(0x40800001)}, 0x1p-21, true}, {[]float32{0, num(0x40800001)}, 0x1p-22, false},
		{[]float32{-1, 1}, 0, false}, {[]float32{-1, 1}, 1, true}, {[]float32{-1, 1}, num(0x3f7fffff), false},
		{[]float32{minusZero, minusZero}, 0, true}, {[]float32{1, -num(bitsLeast)}, 0, false}, {[]float32{1, -num(bitsLeast)}, num(bitsLeast), true},
		{[]float32{3, 3}, 2, true}, {[]float32{3, 3}, 1, false}, {[]float32{5, 0}, 2, true}, {[]float32{5, 0}, 1, false},
		{[]float32{1, 1}, -1, false}, {[]float32{1, 1}, -num(bitsLeast), false}, {[]float32{1, 1}, num(bitsNaN), false},
		{[]float32{1, 1}, num(bitsInf), false}, {[]float32{1, 1}, num(bitsMinusInf), false}, {[]float32{1, 1}, num(bitsMost), true},
		{[]float32{1}, 0, false}, {[]float32{1, 1, 1}, 0, false}, {nil, 0, false},
		{[]float32{num(bitsNaN), 0}, 1, false}, {[]float32{0, num(bitsMinusInf)}, num(bitsMost), false}, {[]float32{num(bitsInf), 0}, 1, false},
		{[]float32{-num(bitsMost), -num(bitsMost)}, num(bitsMost), false}, // LeftOf fails
	} {
		if got := impl.IsPlan(r, c.x, c.near); got != c.want {
			t.Errorf("IsPlan %v near %v: got %v", c.x, c.near, got)
		}
	}
}

func TestAddRow(t *testing.T) {
	r := exampleRows()
	got, ok := impl.AddRow(r, []float32{0, 2}, 1)
	wantBool(t, "AddRow", ok, true)
	wantText(t, "AddRow", rowsText(got), rowsText(impl.Rows{Vars: 2, Numbers: []float32{1, 1, 1, 0, 0, 2}, Bounds: []float32{4, 3, 1}, Gains: []float32{2, 1}}))
	got, ok = impl.AddRow(r, []float32{num(bitsMinusZero), -1}, num(bitsMinusZero))
	wantBool(t, "AddRow", ok, true)
	wantText(t, "AddRow", hexList(got.Numbers[4:])+" "+hexList(got.Bounds[2:]), "80000000 bf800000 80000000")
	for n := 3; n <= 9; n++ {
		r, ok = impl.AddRow(r, []float32{float32(n), 1}, float32(n))
		wantBool(t, "AddRow up to the limit", ok, n <= impl.MaxRows)
	}
	wantText(t, "AddRow beyond the limit", rowsText(r), rowsText(impl.Rows{}))
	for _, c := range []struct {
		row   []float32
		bound float32
	}{
		{nil, 1}, {[]float32{1}, 1}, {[]float32{1, 1, 1}, 1}, {[]float32{1, 1}, -1}, {[]float32{1, 1}, -num(bitsLeast)},
		{[]float32{1, 1}, num(bitsNaN)}, {[]float32{1, 1}, num(bitsInf)}, {[]float32{1, 1}, num(bitsMinusInf)},
		{[]float32{num(bitsNaN), 1}, 1}, {[]float32{1, num(bitsInf)}, 1}, {[]float32{1, num(bitsMinusInf)}, 1},
	} {
		got, ok := impl.AddRow(exampleRows(), c.row, c.bound)
		wantBool(t, "AddRow", ok, false)
		wantText(t, "AddRow", rowsText(got), rowsText(impl.Rows{}))
	}
}

func TestDropRow(t *testing.T) {
	r := impl.Rows{Vars: 2, Numbers: []float32{1, 2, 3, 4, 5, 6}, Bounds: []float32{7, 8, 9}, Gains: []float32{10, 11}}
	for i, want := range []impl.Rows{
		{Vars: 2, Numbers: []float32{3, 4, 5, 6}, Bounds: []float32{8, 9}, Gains: r.Gains},
		{Vars: 2, Numbers: []float32{1, 2, 5, 6}, Bounds: []float32{7, 9}, Gains: r.Gains},
		{Vars: 2, Numbers: []float32{1, 2, 3, 4}, Bounds: []float32{7, 8}, Gains: r.Gains},
	} {
		got, ok := impl.DropRow(r, int64(i))
		wantBool(t, "DropRow", ok, true)
		wantText(t, "DropRow", rowsText(got), rowsText(want))
	}
	for _, i := range []int64{-1, 3, math.MinInt64, math.MaxInt64, 1 << 32} {
		got, ok := impl.DropRow(r, i)
		wantBool(t, "DropRow", ok, false)
		wantText(t, "DropRow", rowsText(got), rowsText(impl.Rows{}))
	}
	got, ok := impl.DropRow(oneRow(1, []float32{1}, []float32{1}), 0)
	wantBool(t, "DropRow of the only one", ok, false)
	wantText(t, "DropRow of the only one", rowsText(got), rowsText(impl.Rows{}))
	full := fullRows()
	for n := 7; n >= 1; n-- {
		full, ok = impl.DropRow(full, int64(n))
		wantBool(t, "DropRow down to one", ok && len(full.Bounds) == n, true)
	}
}

func TestScaleRows(t *testing.T) {
	minusZero := num(bitsMinusZero)
	r := impl.Rows{Vars: 2, Numbers: []float32{0, 2, -4, 1, 0, minusZero, 1, -3}, Bounds: []float32{1, 6, 5, minusZero}, Gains: []float32{7, 9}}
	got, ok := impl.ScaleRows(r)
	wantBool(t, "ScaleRows", ok, true)
	want := impl.Rows{Vars: 2, Numbers: []float32{0, 1, -1, 0.25, 0, minusZero, num(0x3eaaaaab), -1}, Bounds: []float32{0.5, 1.5, 5, minusZero}, Gains: []float32{7, 9}}
	wantText(t, "ScaleRows", rowsText(got), rowsText(want))
	most, least := num(bitsMost), num(bitsLeast)
	got, ok = impl.ScaleRows(oneRow(0, []float32{least}, []float32{1}))
	wantBool(t, "ScaleRows of the least number", ok, true)
	wantText(t, "ScaleRows of the least number", rowsText(got), rowsText(oneRow(0, []float32{1}, []float32{1})))
	got, ok = impl.ScaleRows(oneRow(most, []float32{-most, 1}, []float32{1, 1}))
	wantBool(t, "ScaleRows of the greatest number", ok, true)
	wantText(t, "ScaleRows of the greatest number", rowsText(got), rowsText(oneRow(1, []float32{-1, 1 / most}, []float32{1, 1})))
	got, ok = impl.ScaleRows(oneRow(most, []float32{0.5, 0.25}, []float32{1, 1}))
	wantBool(t, "ScaleRows with a bound that is too great", ok, false)
	wantText(t, "ScaleRows with a bound that is too great", rowsText(got), rowsText(impl.Rows{}))
}
