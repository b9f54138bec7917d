package tests

import (
	"fmt"
	"math"
	"testing"

	"loop.example/g01346/impl"
)

func TestLimitsOfChapter7(t *testing.T) {
	wantText(t, "limits", fmt.Sprint(impl.MaxTop, impl.MaxWhole, impl.MaxDomains, impl.MaxBranches, impl.MaxCases), "5 4 6 64 8")
}

// doubled are the rows of the document's example: 2 at most 5, with the gain 1.
func doubled() impl.Rows { return oneRow(5, []float32{2}, []float32{1}) }

// looseRows have one row that no whole plan breaks.
func looseRows(gains ...float32) impl.Rows { return oneRow(1, repeat(len(gains), float32(0)), gains) }

func wholeText(r impl.Rows, top int64) string {
	plan, gain, ok := impl.WholePlan(r, top)
	return fmt.Sprint(plan, " ", gain, " ", ok)
}

func wholeCountText(r impl.Rows, top int64) string { return numberText(impl.WholeCount(r, top)) }

func TestWholePlans(t *testing.T) {
	const great = 3e38
	for _, c := range []struct {
		what        string
		r           impl.Rows
		top         int64
		best, count string
	}{
		{"the document's example", doubled(), 5, "[2] 2 true", "3 true"},
		{"up to 1", doubled(), 1, "[1] 1 true", "2 true"},
		{"the example of chapter 2", exampleRows(), 5, "[3 1] 7 true", "14 true"},
		{"the example of chapter 2, up to 2", exampleRows(), 2, "[2 2] 6 true", "9 true"},
		{"none but zeros", oneRow(0, []float32{1}, []float32{5}), 5, "[0] 0 true", "1 true"},
		{"none but zeros, of two", oneRow(0.5, []float32{1, 1}, []float32{5, 7}), 5, "[0 0] 0 true", "1 true"},
		{"none but zeros, with a bound of -0", oneRow(num(bitsMinusZero), []float32{1}, []float32{5}), 5, "[0] 0 true", "1 true"},
		{"gains below 0", looseRows(-1, -2), 5, "[0 0] 0 true", "36 true"},
		{"a gain below 0 that a row forces", impl.Rows{Vars: 2, Numbers: []float32{1, -1}, Bounds: []float32{0}, Gains: []float32{3, -1}}, 3, "[3 3] 6 true", "10 true"},
		{"equal gains", oneRow(3, []float32{1, 1}, []float32{1, 1}), 3, "[0 3] 3 true", "10 true"},
		{"gains of 0", looseRows(0, 0, 0), 2, "[0 0 0] 0 true", "27 true"},
		{"gains that are equal when rounded", looseRows(1<<24, 1), 1, "[1 0] 1.6777216e+07 true", "4 true"},
		{"a gain that is not finite is left out", looseRows(great), 5, "[1] 3e+38 true", "6 true"},
		{"gains that are not finite together", looseRows(great, great), 1, "[0 1] 3e+38 true", "4 true"},
		{"a gain that is not a number", looseRows(great, -great), 2, "[1 0] 3e+38 true", "9 true"},
		{"a sum that is not finite is no plan", oneRow(num(bitsMost), []float32{great}, []float32{1}), 5, "[1] 1 true", "2 true"},
		{"a sum below 0 that is not finite is none either", oneRow(0, []float32{-great}, []float32{1}), 5, "[1] 1 true", "2 true"},
		{"a sum that is not a number", oneRow(num(bitsMost), []float32{great, -great}, []float32{1, 1}), 2, "[1 1] 2 true", "3 true"},
		{"most numbers", looseRows(1, 1, 1, 1), 5, "[5 5 5 5] 20 true", "1296 true"},
		{"the first numbers come first", oneRow(1, []float32{1, 1, 1, 1}, []float32{1, 1, 1, 1}), 5, "[0 0 0 1] 1 true", "5 true"},
		{"one more number", looseRows(1, 1, 1, 1, 1), 1, "[] 0 false", "0 false"},
		{"the most numbers of rows", fullRows(), 1, "[] 0 false", "0 false"},
		{"more rows than numbers", impl.Rows{Vars: 1, Numbers: []float32{1, 2, 1, 1, 1, 1, 1, 3}, Bounds: []float32{9, 9, 9, 9, 9, 9, 9, 9}, Gains: []float32{1}}, 5, "[3] 3 true", "4 true"},
	} {
		wantText(t, "WholePlan, "+c.what, wholeText(c.r, c.top), c.best)
		wantText(t, "WholeCount, "+c.what, wholeCountText(c.r, c.top), c.count)
	}
	for top, want := range []string{"[] 0 false", "[1] 1 true", "[2] 2 true", "[3] 3 true", "[4] 4 true", "[5] 5 true", "[] 0 false"} {
		wantText(t, fmt.Sprint("WholePlan up to ", top), wholeText(looseRows(1), int64(top)), want)
	}
}

// wrongTops are those to which no whole plan goes.
func wrongTops() []int64 {
	return []int64{0, 6, -1, 7, math.MaxInt64, math.MinInt64, 1 << 32, 1<<32 + 1}
}

func TestWholePlansFail(t *testing.T) {
	fails := func(what string, r impl.Rows, top int64, x ...int64) {
		wantText(t, "WholePlan"+what, wholeText(r, top), "[] 0 false")
		wantText(t, "WholeCount"+what, wholeCountText(r, top), "0 false")
		wantText(t, "WholeGap"+what, gapText(r, top, 10, 0), "00000000 false")
		wantText(t, "WholesShared"+what, wholesText([]impl.Rows{doubled(), r}, top, 2), " false")
		wantText(t, "ClimbPlan"+what, climbText(r, top, x...), "[] 0 false")
	}
	for _, top := range wrongTops() {
		fails(fmt.Sprint(" up to ", top), doubled(), top, 0)
	}
	for _, r := range invalidRows() {
		fails(" of "+rowsText(r), r, 5, repeat(len(r.Gains), int64(0))...)
		wantText(t, "RoundedPlan of "+rowsText(r), listText(impl.RoundedPlan(r, repeat(len(r.Gains), float32(0)))), "[] false")
	}
	for vars := 5; vars <= 8; vars++ {
		fails(fmt.Sprint(" of numbers: ", vars), looseRows(repeat(vars, float32(0))...), 1, repeat(vars, int64(0))...)
	}
}

func gapText(r impl.Rows, top, most int64, near float32) string {
	gap, ok := impl.WholeGap(r, top, most, near)
	return fmt.Sprint(hex(gap), " ", ok)
}

func TestWholeGap(t *testing.T) {
	for _, c := range []struct {
		what      string
		r         impl.Rows
		top, most int64
		near      float32
		want      string
	}{
		{"the document's example", doubled(), 5, 10, 0, "3f000000 true"},
		{"just as many pivots as there must be", doubled(), 5, 1, 0, "3f000000 true"},
		{"most pivots", doubled(), 5, 64, 0, "3f000000 true"},
		{"one pivot too few", doubled(), 5, 0, 0, "00000000 false"},
		{"one pivot too many", doubled(), 5, 65, 0, "00000000 false"},
		{"pivots below 0", doubled(), 5, -1, 0, "00000000 false"},
		{"up to 1", doubled(), 1, 10, 0, "3fc00000 true"},
		{"no pivot, as none is near enough", doubled(), 5, 0, 1, "c0000000 true"},
		{"near -0", doubled(), 5, 10, num(bitsMinusZero), "3f000000 true"},
		{"near below 0", doubled(), 5, 10, -num(bitsLeast), "00000000 false"},
		{"near that is not finite", doubled(), 5, 10, num(bitsInf), "00000000 false"},
		{"near that is not a number", doubled(), 5, 10, num(bitsNaN), "00000000 false"},
		{"no gap", exampleRows(), 5, 10, 0, "00000000 true"},
		{"two pivots", exampleRows(), 5, 2, 0, "00000000 true"},
		{"one pivot where there must be two", exampleRows(), 5, 1, 0, "00000000 false"},
		{"no end", looseRows(1), 5, 10, 0, "00000000 false"},
		{"no end, but no gain", looseRows(0), 5, 10, 0, "00000000 true"},
		{"a gain that is not finite", oneRow(2.5, []float32{1}, []float32{3e38}), 1, 10, 0, "00000000 false"},
		{"the most numbers of whole plans", oneRow(2.5, repeat(4, float32(1)), repeat(4, float32(1))), 1, 10, 0, "3f000000 true"},
		{"one more", oneRow(2.5, repeat(5, float32(1)), repeat(5, float32(1))), 1, 10, 0, "00000000 false"},
	} {
		wantText(t, "WholeGap, "+c.what, gapText(c.r, c.top, c.most, c.near), c.want)
	}
}

func wholesText(list []impl.Rows, top, workers int64) string {
	return numbersText(impl.WholesShared(list, top, workers))
}

func TestWholesShared(t *testing.T) {
	all := []impl.Rows{doubled(), exampleRows(), looseRows(-1), looseRows(3e38), doubled(), looseRows(1, 1, 1, 1), looseRows(0), exampleRows()}
	for workers := int64(1); workers <= 8; workers++ {
		what := fmt.Sprint("WholesShared by ", workers)
		wantText(t, what, wholesText(all, 5, workers), floats(2, 7, 0, 3e38, 2, 20, 0, 7))
		wantText(t, what+", one", wholesText(all[1:2], 2, workers), floats(6))
		wantText(t, what+", none", wholesText(nil, 5, workers), " true")
		wantText(t, what+", one too many", wholesText(append(all[:8:8], doubled()), 5, workers), " false")
		for i := range all {
			list := append([]impl.Rows{}, all...)
			list[i] = looseRows(0, 0, 0, 0, 0)
			wantText(t, what+", with one that is wrong", wholesText(list, 5, workers), " false")
		}
	}
	for _, workers := range []int64{0, 9, -1, math.MaxInt64, math.MinInt64, 1 << 32, 1<<32 + 1} {
		wantText(t, fmt.Sprint("WholesShared by ", workers), wholesText(all, 5, workers), " false")
		wantText(t, fmt.Sprint("WholesShared by ", workers, ", none"), wholesText(nil, 5, workers), " false")
	}
	for _, top := range wrongTops() {
		wantText(t, fmt.Sprint("WholesShared up to ", top, ", none"), wholesText(nil, top, 1), " false")
	}
	wantText(t, "WholesShared, very many", wholesText(repeat(5000, doubled()), 1, 8), " false")
}

func TestRoundedPlan(t *testing.T) {
	below := func(x float32) float32 { return math.Nextafter32(x, 0) }
	for _, c := range []struct {
		what string
		x    []float32
		want string
	}{
		{"the stage's example", []float32{2.75}, "[2] true"},
		{"zeros", []float32{0, num(bitsMinusZero)}, "[0 0] true"},
		{"numbers next to integers", []float32{below(1), 1, below(2), below(1000000)}, "[0 1 1 999999] true"},
		{"numbers next to 0", []float32{num(bitsLeast), num(bitsNormal), 0.5}, "[0 0 0] true"},
		{"numbers at the limits", []float32{1000000, 0}, "[1000000 0] true"},
		{"as many as rows can have", []float32{0.5, 1.5, 2.5, 3.5, 4.5, 5.5, 6.5, 7.5}, "[0 1 2 3 4 5 6 7] true"},
		{"a number below 0", []float32{1, -num(bitsLeast)}, "[] false"},
		{"a number far below 0", []float32{-1, 1}, "[] false"},
		{"a number beyond the limit", []float32{math.Nextafter32(1000000, 2000000)}, "[] false"},
		{"a number far beyond it", []float32{1, 1, num(bitsMost)}, "[] false"},
		{"not a number", []float32{num(bitsNaN)}, "[] false"},
		{"not a number behind one", []float32{1, num(bitsNaN)}, "[] false"},
		{"an infinity", []float32{num(bitsInf)}, "[] false"},
		{"an infinity below 0", []float32{num(bitsMinusInf)}, "[] false"},
	} {
		r := looseRows(repeat(len(c.x), float32(1))...)
		wantText(t, "RoundedPlan, "+c.what, listText(impl.RoundedPlan(r, c.x)), c.want)
		wantText(t, "RoundedPlan, one number more", listText(impl.RoundedPlan(r, append(c.x[:len(c.x):len(c.x)], 0))), "[] false")
		wantText(t, "RoundedPlan, one number less", listText(impl.RoundedPlan(r, c.x[1:])), "[] false")
	}
	wantText(t, "RoundedPlan, a plan that breaks rows", listText(impl.RoundedPlan(doubled(), []float32{77.5})), "[77] true")
	wantText(t, "RoundedPlan, no numbers", listText(impl.RoundedPlan(doubled(), nil)), "[] false")
}

func climbText(r impl.Rows, top int64, x ...int64) string { return bothText(impl.ClimbPlan(r, x, top)) }

func TestClimbPlan(t *testing.T) {
	apart := impl.Rows{Vars: 2, Numbers: []float32{1, -1}, Bounds: []float32{0.5}, Gains: []float32{1, -1}}
	equal := impl.Rows{Vars: 2, Numbers: []float32{1, -1, -1, 1}, Bounds: []float32{0, 0}, Gains: []float32{1, 1}}
	for _, c := range []struct {
		what string
		r    impl.Rows
		top  int64
		x    []int64
		want string
	}{
		{"the stage's example", doubled(), 5, ints(0), "[2] 2 true"},
		{"a row stops it at once", doubled(), 5, ints(2), "[2] 0 true"},
		{"top stops it at once", looseRows(1), 5, ints(5), "[5] 0 true"},
		{"nothing gains more", looseRows(0, -1), 5, ints(3, 0), "[3 0] 0 true"},
		{"downwards", looseRows(-1), 5, ints(3), "[0] 3 true"},
		{"both ways", looseRows(-1, 2), 3, ints(2, 1), "[0 3] 4 true"},
		{"the greatest gain", oneRow(1, []float32{1, 1}, []float32{1, 3}), 5, ints(0, 0), "[0 1] 1 true"},
		{"of equal gains the first number", oneRow(1, []float32{1, 1}, []float32{1, 1}), 5, ints(0, 0), "[1 0] 1 true"},
		{"the first number more before the second one less", apart, 1, ints(0, 1), "[1 1] 1 true"},
		{"the first number less before the second one more", impl.Rows{Vars: 2, Numbers: []float32{-1, 1}, Bounds: []float32{0.5}, Gains: []float32{-1, 1}}, 1, ints(1, 0), "[0 0] 1 true"},
		{"where two numbers would have to change", equal, 5, ints(0, 0), "[0 0] 0 true"},
		{"a better plan, 3 0, that no way leads to", oneRow(6, []float32{2, 3}, []float32{3, 4}), 5, ints(0, 1), "[0 2] 1 true"},
		{"equal gains are no better", looseRows(1<<24, 1), 1, ints(1, 0), "[1 0] 0 true"},
		{"gains that differ when rounded", looseRows(1<<24, 1), 2, ints(1, 0), "[2 0] 1 true"},
		{"a gain that is not finite is left out", looseRows(3e38), 5, ints(1), "[1] 0 true"},
		{"gains that are not finite are left out", looseRows(3e38, 1), 5, ints(0, 0), "[1 0] 1 true"},
		{"from a gain that is just finite", looseRows(-3e38), 5, ints(1), "[0] 1 true"},
		{"from a gain that is not", looseRows(3e38), 5, ints(2), "[] 0 false"},
		{"from a gain below 0 that is not", looseRows(-3e38), 5, ints(2), "[] 0 false"},
		{"a plan that is not finite is no plan", oneRow(num(bitsMost), []float32{3e38}, []float32{1}), 5, ints(0), "[1] 1 true"},
		{"from a plan that is not finite", oneRow(num(bitsMost), []float32{-3e38}, []float32{1}), 5, ints(2), "[] 0 false"},
		{"the longest climb", looseRows(1, 1, 1, 1), 5, ints(0, 0, 0, 0), "[5 5 5 5] 20 true"},
		{"the longest climb downwards", looseRows(-1, -1, -1, -1), 5, ints(5, 5, 5, 5), "[0 0 0 0] 20 true"},
		{"from a plan that breaks a row", doubled(), 5, ints(3), "[] 0 false"},
		{"from beyond top", looseRows(1), 2, ints(3), "[] 0 false"},
		{"from below 0", looseRows(1), 2, ints(-1), "[] 0 false"},
		{"from far beyond top", looseRows(1), 2, ints(math.MaxInt64), "[] 0 false"},
		{"from far below 0", looseRows(1), 2, ints(math.MinInt64), "[] 0 false"},
		{"from beyond 32 bits", looseRows(1), 2, ints(1<<32 + 1), "[] 0 false"},
		{"from no numbers", looseRows(1), 2, nil, "[] 0 false"},
		{"from one number too few", looseRows(1, 1), 2, ints(0), "[] 0 false"},
		{"from one number too many", looseRows(1, 1), 2, ints(0, 0, 0), "[] 0 false"},
		{"from very many numbers", looseRows(1, 1), 2, repeat(5000, int64(0)), "[] 0 false"},
	} {
		wantText(t, "ClimbPlan, "+c.what, climbText(c.r, c.top, c.x...), c.want)
	}
}
