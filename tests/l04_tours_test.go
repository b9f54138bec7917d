package tests

import (
	"fmt"
	"math"
	"testing"

	"loop.example/g01346/impl"
)

// waysOf returns the ways of cities from those of each one to all before it.
func waysOf(rows ...[]int64) []int64 {
	n := len(rows) + 1
	ways := make([]int64, n*n)
	for i, row := range rows {
		for k, way := range row {
			ways[(i+1)*n+k], ways[k*n+i+1] = way, way
		}
	}
	return ways
}

// equalWays returns the ways of n cities, each of which is as long as the others.
func equalWays(n int, way int64) []int64 {
	var rows [][]int64
	for i := 1; i < n; i++ {
		rows = append(rows, repeat(i, way))
	}
	return waysOf(rows...)
}

// square has four cities, 1 apart, and 2 across.
func square() []int64 { return waysOf(ints(1), ints(2, 1), ints(1, 2, 1)) }

// kite has best tours of 8, and a city with three short ways.
func kite() []int64 { return waysOf(ints(1), ints(1, 1), ints(5, 1, 5)) }

func withAt(list []int64, i int, x int64) []int64 {
	changed := append([]int64(nil), list...)
	changed[i] = x
	return changed
}

// wrongWays are lists that are no ways.
func wrongWays() [][]int64 {
	list := [][]int64{
		nil, {1}, {-1}, {0, 0}, {0, 0, 0}, {0, 1, 1, 0, 0}, {0, 1, 2, 0}, {0, 2, 1, 0}, {0, -1, -1, 0}, {0, 1001, 1001, 0}, {1, 1, 1, 0}, {0, 1, 1, 1},
		{0, 1 << 32, 1 << 32, 0}, {0, math.MaxInt64, math.MaxInt64, 0}, {0, math.MinInt64, math.MinInt64, 0}, {1000}, {math.MinInt64},
		equalWays(11, 1), make([]int64, 99), make([]int64, 101), make([]int64, 120), make([]int64, 144), make([]int64, 10000), equalWays(4, 1001), equalWays(4, -1),
	}
	for i := range 16 {
		list = append(list, withAt(square(), i, 3))
	}
	return list
}

func TestAreCities(t *testing.T) {
	for _, ways := range [][]int64{{0}, {0, 0, 0, 0}, {0, 1000, 1000, 0}, square(), kite(), equalWays(3, 7), equalWays(10, 0), equalWays(10, 1000)} {
		wantBool(t, fmt.Sprint("AreCities ", ways), impl.AreCities(ways), true)
	}
	for _, ways := range wrongWays() {
		wantBool(t, fmt.Sprintf("AreCities %.99s", fmt.Sprint(ways)), impl.AreCities(ways), false)
	}
}

func longText(ways, tour []int64) string {
	long, ok := impl.TourLong(ways, tour)
	return fmt.Sprint(long, " ", ok)
}

func swapText(ways, tour []int64) string {
	swapped, times, ok := impl.SwapTour(ways, tour)
	return fmt.Sprint(swapped, " ", times, " ", ok)
}

func moveText(ways, tour []int64) string {
	moved, times, ok := impl.MoveTour(ways, tour)
	return fmt.Sprint(moved, " ", times, " ", ok)
}

func TestToursThatAreGiven(t *testing.T) {
	line := waysOf(ints(1), ints(2, 1), ints(3, 2, 1), ints(4, 3, 2, 1))
	for _, c := range []struct {
		what             string
		ways, tour       []int64
		long, swap, move string
	}{
		{"around a square", square(), ints(0, 1, 2, 3), "4 true", "[0 1 2 3] 0 true", "[0 1 2 3] 0 true"},
		{"from another city", square(), ints(2, 1, 0, 3), "4 true", "[2 1 0 3] 0 true", "[2 1 0 3] 0 true"},
		{"across a square", square(), ints(0, 2, 1, 3), "6 true", "[0 1 2 3] 1 true", "[2 1 0 3] 1 true"},
		{"one city", ints(0), ints(0), "0 true", "[0] 0 true", "[0] 0 true"},
		{"two cities", ints(0, 7, 7, 0), ints(0, 1), "14 true", "[0 1] 0 true", "[0 1] 0 true"},
		{"two cities turned around", ints(0, 7, 7, 0), ints(1, 0), "14 true", "[1 0] 0 true", "[1 0] 0 true"},
		{"three cities", waysOf(ints(1), ints(2, 3)), ints(2, 0, 1), "6 true", "[2 0 1] 0 true", "[2 0 1] 0 true"},
		{"ways of 0", equalWays(4, 0), ints(3, 1, 2, 0), "0 true", "[3 1 2 0] 0 true", "[3 1 2 0] 0 true"},
		{"equal ways", equalWays(5, 9), ints(4, 2, 0, 1, 3), "45 true", "[4 2 0 1 3] 0 true", "[4 2 0 1 3] 0 true"},
		{"all ways at the limit", equalWays(10, 1000), numbersTo(10), "10000 true", "[0 1 2 3 4 5 6 7 8 9] 0 true", "[0 1 2 3 4 5 6 7 8 9] 0 true"},
		{"to and fro on a line", line, ints(0, 2, 1, 4, 3), "10 true", "[2 0 1 4 3] 1 true", "[2 0 1 4 3] 1 true"},
		{"to and fro on a line from its end", line, ints(2, 0, 4, 1, 3), "12 true", "[4 2 0 1 3] 2 true", "[4 2 0 1 3] 2 true"},
	} {
		wantText(t, "TourLong, "+c.what, longText(c.ways, c.tour), c.long)
		wantText(t, "SwapTour, "+c.what, swapText(c.ways, c.tour), c.swap)
		wantText(t, "MoveTour, "+c.what, moveText(c.ways, c.tour), c.move)
	}
}

// wrongTours are lists that are no orders of four cities.
func wrongTours() [][]int64 {
	return [][]int64{
		nil, {0}, {0, 1, 2}, {1, 2, 3}, {0, 1, 2, 3, 4}, {0, 1, 2, 3, 0}, {0, 1, 2, 2}, {0, 0, 1, 2}, {0, 0, 0, 0}, {1, 2, 3, 4}, {0, 1, 2, 4}, {-1, 0, 1, 2},
		{0, 1, 2, 9}, {0, 1, 2, 10}, {4, 5, 6, 7}, {0, 1, 2, 1<<32 + 3}, {0, 1, 2, math.MinInt64}, {math.MaxInt64, 0, 1, 2}, numbersTo(10), numbersTo(5000),
	}
}

func TestToursThatAreGivenFail(t *testing.T) {
	check := func(ways, tour []int64) {
		what := fmt.Sprintf(" of %.99s at %.99s", fmt.Sprint(tour), fmt.Sprint(ways))
		wantText(t, "TourLong"+what, longText(ways, tour), "0 false")
		wantText(t, "SwapTour"+what, swapText(ways, tour), "[] 0 false")
		wantText(t, "MoveTour"+what, moveText(ways, tour), "[] 0 false")
	}
	for _, tour := range wrongTours() {
		check(square(), tour)
	}
	for _, tour := range [][]int64{nil, {1}, {-1}, {0, 1}, {0, 0}} {
		check(ints(0), tour)
	}
	for _, tour := range [][]int64{numbersTo(9), numbersTo(11), withAt(numbersTo(10), 9, 10), withAt(numbersTo(10), 0, 9)} {
		check(equalWays(10, 1), tour)
	}
	for _, ways := range wrongWays() {
		side := sideOf(ways)
		check(ways, numbersTo(side))
		check(ways, numbersTo(4))
	}
}

func nearText(ways []int64, from int64) string {
	tour, ok := impl.NearTour(ways, from)
	return fmt.Sprint(tour, " ", ok)
}

func TestNearTour(t *testing.T) {
	for _, c := range []struct {
		what string
		ways []int64
		from int64
		want string
	}{
		{"the stage's example", square(), 2, "[2 1 0 3] true"},
		{"from the first city", square(), 0, "[0 1 2 3] true"},
		{"from the last city", square(), 3, "[3 0 1 2] true"},
		{"one city", ints(0), 0, "[0] true"},
		{"two cities", ints(0, 1, 1, 0), 1, "[1 0] true"},
		{"ways of 0", equalWays(5, 0), 2, "[2 0 1 3 4] true"},
		{"equal ways", equalWays(10, 1000), 9, "[9 0 1 2 3 4 5 6 7 8] true"},
		{"a later city that is nearer", waysOf(ints(2), ints(1, 4)), 0, "[0 2 1] true"},
		{"a city that is near to one before", waysOf(ints(1), ints(1, 9), ints(9, 1, 5)), 0, "[0 1 3 2] true"},
		{"no city", square(), 4, "[] false"},
		{"no city", square(), -1, "[] false"},
		{"no city", square(), math.MinInt64, "[] false"},
		{"no city", square(), 1 << 32, "[] false"},
		{"one beyond one city", ints(0), 1, "[] false"},
		{"one beyond most cities", equalWays(10, 1), 10, "[] false"},
	} {
		wantText(t, "NearTour, "+c.what, nearText(c.ways, c.from), c.want)
	}
}

func bestTourText(ways []int64) string {
	tour, long, ok := impl.BestTour(ways)
	return fmt.Sprint(tour, " ", long, " ", ok)
}

func treeText(ways []int64) string {
	tree, sum, ok := impl.CityTree(ways)
	return fmt.Sprint(tree, " ", sum, " ", ok)
}

func tourBoundText(ways []int64) string {
	bound, ok := impl.TourBound(ways)
	return fmt.Sprint(bound, " ", ok)
}

func raisedText(ways []int64, rounds int64) string {
	bound, prices, ok := impl.RaisedBound(ways, rounds)
	return fmt.Sprint(bound, " ", prices, " ", ok)
}

func TestToursThatAreFound(t *testing.T) {
	for _, c := range []struct {
		what                      string
		ways                      []int64
		best, tree, bound, raised string
	}{
		{"the example", square(), "[0 1 2 3] 4 true", "[0 1 0 3 1 2] 3 true", "4 true", "4 [0 0 0 0] true"},
		{"a city with three short ways", kite(), "[0 1 3 2] 8 true", "[0 1 0 2 1 3] 3 true", "4 true", "8 [0 2 0 -2] true"},
		{"one city", ints(0), "[0] 0 true", "[] 0 true", "0 false", "0 [] false"},
		{"two cities", ints(0, 7, 7, 0), "[0 1] 14 true", "[0 1] 7 true", "0 false", "0 [] false"},
		{"three cities", waysOf(ints(1), ints(2, 3)), "[0 1 2] 6 true", "[0 1 0 2] 3 true", "6 true", "6 [0 0 0] true"},
		{"three cities of which two are far apart", waysOf(ints(1), ints(1, 1000)), "[0 1 2] 1002 true", "[0 1 0 2] 2 true", "1002 true", "1002 [0 0 0] true"},
		{"ways of 0", equalWays(4, 0), "[0 1 2 3] 0 true", "[0 1 0 2 0 3] 0 true", "0 true", "0 [0 0 0 0] true"},
		{"most cities, equal ways", equalWays(10, 1000), "[0 1 2 3 4 5 6 7 8 9] 10000 true", "[0 1 0 2 0 3 0 4 0 5 0 6 0 7 0 8 0 9] 9000 true", "10000 true", "10000 [0 0 0 0 0 0 0 0 0 0] true"},
		{"a later second city", waysOf(ints(9), ints(1, 1), ints(1, 9, 9)), "[0 2 1 3] 12 true", "[0 2 0 3 2 1] 3 true", "12 true", "12 [0 0 0 0] true"},
		{"a tree that begins with 1", waysOf(ints(5), ints(5, 2), ints(5, 2, 2)), "[0 1 2 3] 14 true", "[0 1 1 2 1 3] 9 true", "14 true", "14 [0 0 0 0] true"},
		{"a bound that is raised to the tour", waysOf(ints(1), ints(4, 3), ints(2, 3, 9)), "[0 2 1 3] 12 true", "[0 1 0 3 1 2] 6 true", "9 true", "12 [0 2 -2 0] true"},
		{"the former before the latter", waysOf(ints(1), ints(5, 3), ints(3, 5, 5)), "[0 1 2 3] 12 true", "[0 1 0 3 1 2] 7 true", "12 true", "12 [0 0 0 0] true"},
		{"not as they came in", waysOf(ints(2), ints(1, 9), ints(9, 3, 3)), "[0 1 3 2] 9 true", "[0 2 0 1 1 3] 6 true", "9 true", "9 [0 0 0 0] true"},
	} {
		wantText(t, "BestTour, "+c.what, bestTourText(c.ways), c.best)
		wantText(t, "CityTree, "+c.what, treeText(c.ways), c.tree)
		wantText(t, "TourBound, "+c.what, tourBoundText(c.ways), c.bound)
		wantText(t, "RaisedBound, "+c.what, raisedText(c.ways, 50), c.raised)
	}
	for _, ways := range wrongWays() {
		what := fmt.Sprintf(" of %.99s", fmt.Sprint(ways))
		wantText(t, "BestTour"+what, bestTourText(ways), "[] 0 false")
		wantText(t, "CityTree"+what, treeText(ways), "[] 0 false")
		wantText(t, "TourBound"+what, tourBoundText(ways), "0 false")
		wantText(t, "RaisedBound"+what, raisedText(ways, 0), "0 [] false")
		wantText(t, "NearTour"+what, nearText(ways, 0), "[] false")
	}
}

// TestRaisedBound follows the rounds of the kite by hand: its tree is 1 2, 1 3,
// the edges of 0 are those to 1 and 2, so 1 becomes dearer by 1, and 3 cheaper.
func TestRaisedBound(t *testing.T) {
	for _, c := range []struct {
		rounds int64
		want   string
	}{
		{0, "4 [0 0 0 0] true"}, {1, "6 [0 1 0 -1] true"}, {2, "8 [0 2 0 -2] true"}, {3, "8 [0 2 0 -2] true"}, {50, "8 [0 2 0 -2] true"},
		{51, "0 [] false"}, {-1, "0 [] false"}, {math.MaxInt64, "0 [] false"}, {math.MinInt64, "0 [] false"}, {1 << 32, "0 [] false"},
	} {
		wantText(t, fmt.Sprint("RaisedBound with rounds ", c.rounds), raisedText(kite(), c.rounds), c.want)
	}
	for _, rounds := range []int64{0, 50} {
		wantText(t, "RaisedBound of two cities", raisedText(ints(0, 1, 1, 0), rounds), "0 [] false")
		wantText(t, "RaisedBound of one city", raisedText(ints(0), rounds), "0 [] false")
	}
}

func toursText(ways []int64, workers int64) string {
	longs, ok := impl.ToursShared(ways, workers)
	return fmt.Sprint(longs, " ", ok)
}

func TestToursShared(t *testing.T) {
	for _, c := range []struct {
		what    string
		ways    []int64
		workers int64
		want    string
	}{
		{"the stage's example", square(), 3, "[4 4 4 4] true"},
		{"one worker", kite(), 1, "[8 8 8 8] true"},
		{"one city, one worker", ints(0), 1, "[0] true"},
		{"one city, most workers", ints(0), 8, "[0] true"},
		{"two cities", ints(0, 5, 5, 0), 2, "[10 10] true"},
		{"most cities, most workers", equalWays(10, 1000), 8, fmt.Sprint(repeat(10, int64(10000)), " true")},
		{"no worker", square(), 0, "[] false"},
		{"one worker beyond most", square(), 9, "[] false"},
		{"less than no worker", square(), -1, "[] false"},
		{"many workers", square(), math.MaxInt64, "[] false"},
		{"many less than none", square(), math.MinInt64, "[] false"},
		{"workers far away", square(), 1<<32 + 1, "[] false"},
	} {
		wantText(t, "ToursShared, "+c.what, toursText(c.ways, c.workers), c.want)
	}
	for _, ways := range wrongWays() {
		wantText(t, fmt.Sprintf("ToursShared of %.99s", fmt.Sprint(ways)), toursText(ways, 1), "[] false")
	}
}
