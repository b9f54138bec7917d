package tests

import (
	"fmt"
	"math"
	"testing"

	"loop.example/g01346/impl"
)

func numbersText(list []float32, ok bool) string { return fmt.Sprint(hexList(list), " ", ok) }
func shrinkText(list []float32, by float32) string {
	return numbersText(impl.ShrinkList(list, by))
}
func simplexText(list []float32) string { return numbersText(impl.ToSimplex(list)) }
func stepsText(r impl.Rows, step, by float32, rounds int64) string {
	return numbersText(impl.ShrinkSteps(r, step, by, rounds))
}

// floats returns the text of numbers and of success.
func floats(list ...float32) string { return numbersText(list, true) }

func TestShrinkList(t *testing.T) {
	zero, minus, least, most := num(bitsZero), num(bitsMinusZero), num(bitsLeast), num(bitsMost)
	for _, c := range []struct {
		what string
		list []float32
		by   float32
		want string
	}{
		{"the stage's example", []float32{3, -2, 0.5}, 1, floats(2, -1, 0)},
		{"numbers as far from 0 as by", []float32{1, -1}, 1, floats(0, 0)},
		{"numbers a little nearer to 0", []float32{num(0x3f7fffff), -num(0x3f7fffff)}, 1, floats(0, 0)},
		{"numbers a little farther from 0", []float32{num(0x3f800001), -num(0x3f800001)}, 1, floats(0x1p-23, -0x1p-23)},
		{"zeros with signs", []float32{zero, minus}, 1, floats(zero, zero)},
		{"zeros with signs, by 0", []float32{zero, minus, 5, -5}, 0, floats(zero, zero, 5, -5)},
		{"zeros with signs, by -0", []float32{zero, minus, 5, -5}, minus, floats(zero, zero, 5, -5)},
		{"subnormal numbers by 0", []float32{least, -least}, 0, floats(least, -least)},
		{"subnormal numbers by the least one", []float32{least, -least, 3 * least, -3 * least, num(bitsNormal)}, least, floats(0, 0, 2*least, -2*least, num(bitsMostSub))},
		{"little numbers by a subnormal one", []float32{1, -1}, least, floats(1, -1)},
		{"the greatest numbers by 0", []float32{most, -most}, 0, floats(most, -most)},
		{"the greatest numbers by the greatest one", []float32{most, -most, 1}, most, floats(0, 0, 0)},
		{"the greatest numbers by a great one", []float32{most, -most}, 0x1p127, floats(num(0x7efffffe), -num(0x7efffffe))},
		{"a difference that is rounded to even", []float32{1, -1}, 0x1p-25, floats(1, -1)},
		{"a difference that is rounded", []float32{1, -1}, 0x3p-26, floats(num(0x3f7fffff), -num(0x3f7fffff))},
		{"most numbers", repeat(64, float32(-2)), 0.5, floats(repeat(64, float32(-1.5))...)},
	} {
		wantText(t, "ShrinkList, "+c.what, shrinkText(c.list, c.by), c.want)
	}
	for _, list := range wrongNumbers() {
		wantText(t, fmt.Sprintf("ShrinkList of %.99s", fmt.Sprint(list)), shrinkText(list, 1), " false")
	}
	for _, by := range append(notFinite(), -1, -least, -most) {
		wantText(t, "ShrinkList by "+hex(by), shrinkText([]float32{1, 2}, by), " false")
	}
}

// wrongNumbers are lists of numbers that can't be shrunk.
func wrongNumbers() [][]float32 {
	list := [][]float32{nil, {}, repeat(65, float32(1)), repeat(5000, float32(1)), repeat(65, float32(0))}
	for _, x := range notFinite() {
		list = append(list, []float32{x}, []float32{x, 1}, []float32{1, x}, append(repeat(63, float32(1)), x))
	}
	return list
}

func TestToSimplex(t *testing.T) {
	zero, minus, least, most := num(bitsZero), num(bitsMinusZero), num(bitsLeast), num(bitsMost)
	for _, c := range []struct {
		what string
		list []float32
		want string
	}{
		{"the stage's first example", []float32{1, 1}, floats(0.5, 0.5)},
		{"the stage's second example", []float32{5, 0}, floats(1, 0)},
		{"one number", []float32{7}, floats(1)},
		{"one number below 0", []float32{-7}, floats(1)},
		{"what has the sum 1", []float32{0.25, 0.5, 0.25}, floats(0.25, 0.5, 0.25)},
		{"zeros become equal", []float32{zero, minus, zero, minus}, floats(0.25, 0.25, 0.25, 0.25)},
		{"a zero with a sign that stays", []float32{1, minus, zero}, floats(1, minus, zero)},
		{"a number below 0 becomes +0", []float32{1, -1, -least}, floats(1, zero, zero)},
		{"numbers in any order", []float32{-1, 2, 0, 1.5}, floats(0, 0.75, 0, 0.25)},
		{"all of them stay", []float32{0.5, 1, 0.75}, floats(num(0x3daaaaac), num(0x3f155556), num(0x3eaaaaab))},
		{"all of them become greater", []float32{-1, -1.5}, floats(0.75, 0.25)},
		{"one that becomes 0 exactly", []float32{2, 1}, floats(1, 0)},
		{"one that becomes little more than 0", []float32{2, num(0x3f800001)}, floats(1, 0x1p-23)},
		{"one that comes too short by little", []float32{2, num(0x3f7fffff)}, floats(1, zero)},
		{"subnormal numbers", []float32{least, -least}, floats(0.5, 0.5)},
		{"most numbers", repeat(64, float32(-3)), floats(repeat(64, float32(1)/64)...)},
		{"the greatest number from which 1 can be taken", []float32{0x1p24, -1}, floats(1, zero)},
		{"a greater one", []float32{0x1p25}, " false"},
		{"the greatest number", []float32{most}, " false"},
		{"the greatest numbers", []float32{most, most, 1}, " false"},
		{"the least numbers", []float32{-most}, " false"},
		{"sums that are not finite", []float32{-most, -most}, " false"},
		{"sums that are not finite, and a 1", []float32{1, -most, -most}, " false"},
		{"a great number below 0", []float32{1, -most}, floats(1, zero)},
		{"six great ones, of which no fewer have a k", repeat(6, float32(33554440)), floats(repeat(6, float32(4))...)},
		{"five of them", repeat(5, float32(33554440)), " false"},
		{"six great ones and one far below 0", append(repeat(6, float32(33554440)), -most), floats(append(repeat(6, float32(4)), zero)...)},
	} {
		wantText(t, "ToSimplex, "+c.what, simplexText(c.list), c.want)
	}
	for _, list := range wrongNumbers() {
		wantText(t, fmt.Sprintf("ToSimplex of %.99s", fmt.Sprint(list)), simplexText(list), " false")
	}
}

// oneVar has the row x at most bound, where x is taken so many times.
func oneVar(times, bound float32) impl.Rows {
	return impl.Rows{Vars: 1, Numbers: []float32{times}, Bounds: []float32{bound}, Gains: []float32{0}}
}

func TestShrinkSteps(t *testing.T) {
	least, most := num(bitsLeast), num(bitsMost)
	both := impl.Rows{Vars: 2, Numbers: []float32{1, 1}, Bounds: []float32{4}, Gains: []float32{7, -7}}
	for _, c := range []struct {
		what     string
		rows     impl.Rows
		step, by float32
		rounds   int64
		want     string
	}{
		{"the stage's example", oneVar(1, 4), 1, 1, 3, floats(3)},
		{"no rounds", exampleRows(), 1, 1, 0, floats(0, 0)},
		{"one round", oneVar(1, 4), 0.5, 1, 1, floats(1.5)},
		{"two rounds", oneVar(1, 4), 0.5, 1, 2, floats(2.25)},
		{"most rounds", oneVar(1, 4), 0.5, 1, 200, floats(3)},
		{"all are told with those before", both, 0.5, 0, 1, floats(2, 2)},
		{"and stay", both, 0.5, 0, 2, floats(2, 2)},
		{"rows are added", exampleRows(), 0.25, 0, 1, floats(1.75, 1)},
		{"columns, not rows", impl.Rows{Vars: 2, Numbers: []float32{1, 2, 3, 4}, Bounds: []float32{5, 6}, Gains: []float32{0, 0}}, 1, 0, 1, floats(23, 34)},
		{"by is great", oneVar(1, 4), 1, 5, 9, floats(0)},
		{"a row below 0", oneVar(-1, 4), 1, 1, 1, floats(-3)},
		{"by of -0", oneVar(-1, 4), 1, num(bitsMinusZero), 1, floats(-4)},
		{"rows of zeros", oneVar(0, 4), 1, 1, 5, floats(0)},
		{"rows of zeros with a sign", oneVar(num(bitsMinusZero), num(bitsMinusZero)), 1, 0, 5, floats(0)},
		{"a step so little that by is nothing", oneVar(1, 4), least, 0.25, 1, floats(4 * least)},
		{"the greatest step", oneVar(1, least), most, 1, 1, floats(0)},
		{"a number that is not finite", oneVar(0x1p60, 0x1p60), 0x1p10, 0, 1, " false"},
		{"a sum that is not finite", oneVar(most, most), least, 0, 1, " false"},
		{"what is left is finite in the first round", oneVar(0x1p60, 0x1p60), 1, 0, 1, floats(0x1p120)},
		{"what is left is not finite in the second round", oneVar(0x1p60, 0x1p60), 1, 0, 2, " false"},
	} {
		wantText(t, "ShrinkSteps, "+c.what, stepsText(c.rows, c.step, c.by, c.rounds), c.want)
	}
}

func TestShrinkStepsFail(t *testing.T) {
	least, most := num(bitsLeast), num(bitsMost)
	good := oneVar(1, 4)
	for _, rounds := range []int64{0, 1, 200} {
		for _, r := range invalidRows() {
			wantText(t, fmt.Sprintf("ShrinkSteps of %.99s", rowsText(r)), stepsText(r, 1, 1, rounds), " false")
		}
		for _, step := range append(notFinite(), 0, num(bitsMinusZero), -least, -1, -most) {
			wantText(t, fmt.Sprint("ShrinkSteps with the step ", hex(step)), stepsText(good, step, 1, rounds), " false")
			wantText(t, fmt.Sprint("ShrinkSteps with the step ", hex(step), " by 0"), stepsText(good, step, 0, rounds), " false")
		}
		for _, by := range append(notFinite(), -least, -1, -most) {
			wantText(t, fmt.Sprint("ShrinkSteps by ", hex(by)), stepsText(good, 1, by, rounds), " false")
			wantText(t, fmt.Sprint("ShrinkSteps by ", hex(by), " in little steps"), stepsText(good, least, by, rounds), " false")
		}
		wantText(t, "ShrinkSteps with step times by that is not finite", stepsText(good, most, 2, rounds), " false")
		wantText(t, "ShrinkSteps with by times step that is not finite", stepsText(good, 2, most, rounds), " false")
	}
	wantText(t, "ShrinkSteps with step times by that is just finite", stepsText(good, 1, most, 1), floats(0))
	for _, rounds := range []int64{-1, 201, math.MaxInt64, math.MinInt64, 1 << 32, 1<<32 + 1} {
		wantText(t, fmt.Sprint("ShrinkSteps, rounds ", rounds), stepsText(good, 1, 1, rounds), " false")
	}
}
