package tests

import (
	"fmt"
	"math"
	"testing"

	"loop.example/g01346/impl"
)

func TestLimitsOfChapter4(t *testing.T) {
	wantText(t, "limits", fmt.Sprint(impl.MaxThings, impl.MaxRoom, impl.MaxCities), "16 1000 10")
}

func ints(list ...int64) []int64 { return list }

// wrongSizes are lists that have no sizes.
func wrongSizes() [][]int64 {
	return [][]int64{
		nil, {0}, {-1}, {1001}, {1, 0}, {0, 1}, {1, 1001, 1}, {1, 1, -1}, repeat(17, int64(1)), repeat(5000, int64(1)),
		{math.MaxInt64}, {math.MinInt64}, {1 << 32}, {1<<32 + 1}, {1, math.MinInt64},
	}
}

func TestAreSizes(t *testing.T) {
	for _, list := range [][]int64{{1}, {1000}, {1, 1000, 500}, repeat(16, int64(1)), repeat(16, int64(1000))} {
		wantBool(t, fmt.Sprint("AreSizes ", list), impl.AreSizes(list), true)
	}
	for _, list := range wrongSizes() {
		wantBool(t, fmt.Sprintf("AreSizes %.99s", fmt.Sprint(list)), impl.AreSizes(list), false)
	}
}

// things are what packs are made of.
type things struct {
	sizes, gains []int64
	room         int64
}

func gainsText(c things) string {
	gains, ok := impl.BestGains(c.sizes, c.gains, c.room)
	return fmt.Sprint(gains, " ", ok)
}

func bestText(c things) string {
	pack, gain, ok := impl.BestPack(c.sizes, c.gains, c.room)
	return fmt.Sprint(pack, " ", gain, " ", ok)
}

func greedyText(c things) string {
	pack, gain, ok := impl.GreedyPack(c.sizes, c.gains, c.room)
	return fmt.Sprint(pack, " ", gain, " ", ok)
}

func boundText(c things) string {
	bound, ok := impl.PackBound(c.sizes, c.gains, c.room)
	return fmt.Sprint(bound, " ", ok)
}

func TestPacks(t *testing.T) {
	for _, c := range []struct {
		what                 string
		things               things
		best, greedy, bounds string
	}{
		{"the example", things{ints(2, 3, 4), ints(3, 4, 5), 5}, "[0 1] 7 true", "[0 1] 7 true", "7 true"},
		{"a part of one more", things{ints(2, 3, 4), ints(3, 4, 5), 6}, "[0 2] 8 true", "[0 1] 7 true", "8 true"},
		{"room for all", things{ints(2, 3, 4), ints(3, 4, 5), 9}, "[0 1 2] 12 true", "[0 1 2] 12 true", "12 true"},
		{"room for all and more", things{ints(2, 3, 4), ints(3, 4, 5), 1000}, "[0 1 2] 12 true", "[0 1 2] 12 true", "12 true"},
		{"room of nothing", things{ints(2, 3, 4), ints(3, 4, 5), 0}, "[] 0 true", "[] 0 true", "0 true"},
		{"sizes greater than the room", things{ints(5, 7), ints(9, 1000), 4}, "[] 0 true", "[] 0 true", "571 true"},
		{"one that is greater", things{ints(5, 2), ints(900, 1), 4}, "[1] 1 true", "[1] 1 true", "720 true"},
		{"a part that is rounded down", things{ints(3), ints(5), 2}, "[] 0 true", "[] 0 true", "3 true"},
		{"a gain of 0", things{ints(1), ints(0), 5}, "[] 0 true", "[0] 0 true", "0 true"},
		{"gains of 0 and little room", things{ints(1, 1, 1), ints(0, 0, 0), 2}, "[] 0 true", "[0 1] 0 true", "0 true"},
		{"a gain of 0 behind others", things{ints(2, 1, 2), ints(0, 5, 0), 3}, "[1] 5 true", "[0 1] 5 true", "5 true"},
		{"equal things", things{ints(2, 2, 2), ints(3, 3, 3), 4}, "[0 1] 6 true", "[0 1] 6 true", "6 true"},
		{"a later one only if it must be", things{ints(1, 2, 3), ints(1, 2, 3), 3}, "[0 1] 3 true", "[0 1] 3 true", "3 true"},
		{"a later one, as it must be", things{ints(1, 2, 3), ints(1, 1, 3), 3}, "[2] 3 true", "[0 1] 2 true", "3 true"},
		{"equal quotients, the great one first", things{ints(4, 2), ints(8, 4), 4}, "[0] 8 true", "[0] 8 true", "8 true"},
		{"equal quotients, the little one first", things{ints(2, 4), ints(4, 8), 4}, "[1] 8 true", "[0] 4 true", "8 true"},
		{"equal quotients behind a greater one", things{ints(2, 4, 1), ints(4, 8, 9), 5}, "[1 2] 17 true", "[0 2] 13 true", "17 true"},
		{"nearly equal quotients", things{ints(999, 998), ints(1000, 999), 999}, "[0] 1000 true", "[1] 999 true", "1000 true"},
		{"nearly equal quotients turned around", things{ints(998, 999), ints(999, 1000), 999}, "[1] 1000 true", "[0] 999 true", "1000 true"},
		{"one for which there is none is passed over", things{ints(3, 4, 1), ints(6, 7, 1), 4}, "[1] 7 true", "[0 2] 7 true", "7 true"},
		{"taken in another order", things{ints(3, 1), ints(1, 5), 4}, "[0 1] 6 true", "[0 1] 6 true", "6 true"},
		{"numbers at the limits", things{ints(1000), ints(1000), 1000}, "[0] 1000 true", "[0] 1000 true", "1000 true"},
		{"one less room", things{ints(1000), ints(1000), 999}, "[] 0 true", "[] 0 true", "999 true"},
		{"many at the limits", things{repeat(16, int64(1)), repeat(16, int64(1000)), 1000}, fmt.Sprint(numbersTo(16), " 16000 true"), fmt.Sprint(numbersTo(16), " 16000 true"), "16000 true"},
	} {
		wantText(t, "BestPack, "+c.what, bestText(c.things), c.best)
		wantText(t, "GreedyPack, "+c.what, greedyText(c.things), c.greedy)
		wantText(t, "PackBound, "+c.what, boundText(c.things), c.bounds)
	}
}

func TestBestGains(t *testing.T) {
	for _, c := range []struct {
		what   string
		things things
		want   string
	}{
		{"the example", things{ints(2, 3, 4), ints(3, 4, 5), 5}, "[0 0 3 4 5 7] true"},
		{"room of nothing", things{ints(1), ints(7), 0}, "[0] true"},
		{"a thing is taken once", things{ints(1), ints(7), 3}, "[0 7 7 7] true"},
		{"sizes greater than the room", things{ints(4, 5), ints(7, 8), 3}, "[0 0 0 0] true"},
		{"as great as the room", things{ints(4, 5), ints(7, 6), 4}, "[0 0 0 0 7] true"},
		{"gains of 0", things{ints(1, 2), ints(0, 0), 3}, "[0 0 0 0] true"},
		{"less gain for more size", things{ints(2, 1), ints(1, 3), 3}, "[0 3 3 4] true"},
	} {
		wantText(t, "BestGains, "+c.what, gainsText(c.things), c.want)
	}
	all, ok := impl.BestGains(ints(1000), ints(1000), 1000)
	if !ok || len(all) != 1001 || all[0] != 0 || all[999] != 0 || all[1000] != 1000 {
		t.Errorf("BestGains at the limits: got %v, %v", all, ok)
	}
}

// wrongThings are things, one argument of which is wrong.
func wrongThings() []things {
	list := []things{
		{ints(1, 2), ints(1), 3}, {ints(1), ints(1, 2), 3}, {ints(1), nil, 3}, {nil, ints(1), 3}, {nil, nil, 0},
		{ints(1), ints(-1), 3}, {ints(1), ints(1001), 3}, {ints(1, 1), ints(0, -1), 3}, {ints(1, 1), ints(1001, 0), 3},
		{ints(1), ints(math.MaxInt64), 3}, {ints(1), ints(math.MinInt64), 3}, {ints(1), ints(1 << 32), 3},
		{ints(1), ints(1), -1}, {ints(1), ints(1), 1001}, {ints(1), ints(1), math.MaxInt64}, {ints(1), ints(1), math.MinInt64},
		{ints(1), ints(1), 1 << 32}, {ints(1), ints(1), 1<<32 + 1},
	}
	for _, sizes := range wrongSizes() {
		list = append(list, things{sizes, repeat(len(sizes), int64(1)), 5})
	}
	return list
}

func TestPacksFail(t *testing.T) {
	for _, c := range wrongThings() {
		what := fmt.Sprintf(" of %.99s", fmt.Sprint(c))
		wantText(t, "BestGains"+what, gainsText(c), "[] false")
		wantText(t, "BestPack"+what, bestText(c), "[] 0 false")
		wantText(t, "GreedyPack"+what, greedyText(c), "[] 0 false")
		wantText(t, "PackBound"+what, boundText(c), "0 false")
	}
}

// fit is what there is to fill and to put into bins.
type fit struct {
	sizes []int64
	room  int64
}

func fillText(c fit) string {
	ways, ok := impl.WaysToFill(c.sizes, c.room)
	return fmt.Sprint(ways, " ", ok)
}

func firstBinsText(c fit) string {
	bins, count, ok := impl.FirstBins(c.sizes, c.room)
	return fmt.Sprint(bins, " ", count, " ", ok)
}

func leastBinsText(c fit) string {
	count, ok := impl.LeastBins(c.sizes, c.room)
	return fmt.Sprint(count, " ", ok)
}

// wrongFits are those, one argument of which is wrong for all functions.
func wrongFits() []fit {
	list := []fit{{ints(1), -1}, {ints(1), 1001}, {ints(1), math.MaxInt64}, {ints(1), math.MinInt64}, {ints(1), 1 << 32}, {ints(1), 1<<32 + 1}}
	for _, sizes := range wrongSizes() {
		list = append(list, fit{sizes, 1000}, fit{sizes, 0})
	}
	return list
}

func TestWaysToFill(t *testing.T) {
	for _, c := range []struct {
		what string
		fit  fit
		want string
	}{
		{"two ways", fit{ints(1, 2, 3), 3}, "2 true"},
		{"room of nothing", fit{ints(1, 2, 3), 0}, "1 true"},
		{"all of them", fit{ints(1, 2, 3), 6}, "1 true"},
		{"more than all of them", fit{ints(1, 2, 3), 7}, "0 true"},
		{"ways of 0", fit{ints(2, 4), 3}, "0 true"},
		{"a size greater than the room", fit{ints(5, 3), 4}, "0 true"},
		{"a size as great as the room", fit{ints(4, 3), 4}, "1 true"},
		{"equal sizes are different things", fit{ints(2, 2, 2), 4}, "3 true"},
		{"a thing is taken once", fit{ints(1), 2}, "0 true"},
		{"numbers at the limits", fit{ints(1000), 1000}, "1 true"},
		{"one less room", fit{ints(1000), 999}, "0 true"},
		{"most things", fit{repeat(16, int64(1)), 8}, "12870 true"},
		{"most things, most room", fit{repeat(16, int64(125)), 1000}, "12870 true"},
	} {
		wantText(t, "WaysToFill, "+c.what, fillText(c.fit), c.want)
	}
	for _, c := range wrongFits() {
		wantText(t, fmt.Sprintf("WaysToFill of %.99s", fmt.Sprint(c)), fillText(c), "0 false")
	}
}

func TestBins(t *testing.T) {
	for _, c := range []struct {
		what         string
		fit          fit
		first, least string
	}{
		{"the example", fit{ints(4, 3, 3), 5}, "[0 1 2] 3 true", "3 true"},
		{"the stage's example", fit{ints(4, 3, 2, 1), 5}, "[0 1 1 0] 2 true", "2 true"},
		{"in descending order", fit{ints(2, 3, 2, 3), 5}, "[0 0 1 1] 2 true", "2 true"},
		{"one thing", fit{ints(7), 7}, "[0] 1 true", "1 true"},
		{"one less room", fit{ints(7), 6}, "[] 0 false", "0 false"},
		{"room of nothing", fit{ints(1), 0}, "[] 0 false", "0 false"},
		{"one that is greater than the room", fit{ints(1, 2, 6, 1), 5}, "[] 0 false", "0 false"},
		{"a last one that is greater than the room", fit{ints(1, 6), 5}, "[] 0 false", "0 false"},
		{"equal sizes", fit{ints(3, 3, 3), 5}, "[0 1 2] 3 true", "3 true"},
		{"all in one", fit{ints(1, 2, 3), 6}, "[0 0 0] 1 true", "1 true"},
		{"the first bin, not the fullest one", fit{ints(7, 5, 5, 2, 1), 11}, "[0 1 1 0 0] 2 true", "2 true"},
		{"one bin more than needed", fit{ints(3, 2, 2, 3, 2, 2), 7}, "[0 1 1 0 1 2] 3 true", "2 true"},
		{"numbers at the limits", fit{repeat(10, int64(1000)), 1000}, "[0 1 2 3 4 5 6 7 8 9] 10 true", "10 true"},
		{"most things in one", fit{repeat(10, int64(100)), 1000}, "[0 0 0 0 0 0 0 0 0 0] 1 true", "1 true"},
		{"one thing beyond most", fit{repeat(11, int64(1)), 1000}, "[0 0 0 0 0 0 0 0 0 0 0] 1 true", "0 false"},
		{"most things for the rule", fit{repeat(16, int64(1000)), 1000}, fmt.Sprint(numbersTo(16), " 16 true"), "0 false"},
	} {
		wantText(t, "FirstBins, "+c.what, firstBinsText(c.fit), c.first)
		wantText(t, "LeastBins, "+c.what, leastBinsText(c.fit), c.least)
	}
	for _, c := range wrongFits() {
		what := fmt.Sprintf(" of %.99s", fmt.Sprint(c))
		wantText(t, "FirstBins"+what, firstBinsText(c), "[] 0 false")
		wantText(t, "LeastBins"+what, leastBinsText(c), "0 false")
	}
}

func halvesText(sizes []int64) string {
	set, gap, ok := impl.BestHalves(sizes)
	return fmt.Sprint(set, " ", gap, " ", ok)
}

func TestBestHalves(t *testing.T) {
	for _, c := range []struct {
		what  string
		sizes []int64
		want  string
	}{
		{"the stage's example", ints(5, 4, 3), "[1 2] 2 true"},
		{"one thing", ints(7), "[] 7 true"},
		{"two equal ones", ints(7, 7), "[1] 0 true"},
		{"a little one", ints(7, 1), "[1] 6 true"},
		{"a great one", ints(1, 7), "[1] 6 true"},
		{"the first of equal ones", ints(1, 1, 1), "[1] 1 true"},
		{"the lesser number rather than the lesser list", ints(3, 1, 3), "[2] 1 true"},
		{"no difference", ints(1, 2, 3, 4, 10), "[4] 0 true"},
		{"the first one without difference", ints(2, 2, 2, 2), "[1 2] 0 true"},
		{"numbers at the limits", repeat(16, int64(1000)), "[1 2 3 4 5 6 7 8] 0 true"},
		{"a last one as great as all others", append(repeat(15, int64(10)), 150), "[15] 0 true"},
	} {
		wantText(t, "BestHalves, "+c.what, halvesText(c.sizes), c.want)
	}
	for _, sizes := range wrongSizes() {
		wantText(t, fmt.Sprintf("BestHalves of %.99s", fmt.Sprint(sizes)), halvesText(sizes), "[] 0 false")
	}
}
