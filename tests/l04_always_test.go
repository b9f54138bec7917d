package tests

import (
	"fmt"
	"math"
	"testing"

	"loop.example/g01346/impl"
)

// This file is about promise 1 for chapter 4: every function returns for all
// arguments, modifies none of them, returns equal results for equal ones, and
// zero values where it fails.

func outcomesOfThings(sizes, gains []int64, room int64) []outcome {
	all, one := impl.BestGains(sizes, gains, room)
	pack, best, two := impl.BestPack(sizes, gains, room)
	quick, less, three := impl.GreedyPack(sizes, gains, room)
	bound, four := impl.PackBound(sizes, gains, room)
	ways, five := impl.WaysToFill(sizes, room)
	bins, used, six := impl.FirstBins(sizes, room)
	least, seven := impl.LeastBins(sizes, room)
	set, gap, eight := impl.BestHalves(sizes)
	return []outcome{
		saysBool("AreSizes", impl.AreSizes(sizes)), says("BestGains", one, all), says("BestPack", two, pack, best), says("GreedyPack", three, quick, less),
		says("PackBound", four, bound), says("WaysToFill", five, ways), says("FirstBins", six, bins, used), says("LeastBins", seven, least), says("BestHalves", eight, set, gap),
	}
}

func outcomesOfSets(n int64, sets []int64) []outcome {
	greedy, one := impl.GreedyCover(n, sets)
	cover, two := impl.LeastCover(n, sets)
	exact, three := impl.ExactCovers(n, sets)
	return []outcome{saysBool("AreSets", impl.AreSets(n, sets)), says("GreedyCover", one, greedy), says("LeastCover", two, cover), says("ExactCovers", three, exact)}
}

// cityArguments are the arguments besides ways.
type cityArguments struct {
	tour                  []int64
	from, rounds, workers int64
}

func outcomesOfWays(ways []int64, s cityArguments) []outcome {
	long, one := impl.TourLong(ways, s.tour)
	near, two := impl.NearTour(ways, s.from)
	best, least, three := impl.BestTour(ways)
	swapped, turns, four := impl.SwapTour(ways, s.tour)
	moved, moves, five := impl.MoveTour(ways, s.tour)
	tree, sum, six := impl.CityTree(ways)
	bound, seven := impl.TourBound(ways)
	raised, prices, eight := impl.RaisedBound(ways, s.rounds)
	shared, nine := impl.ToursShared(ways, s.workers)
	return []outcome{
		saysBool("AreCities", impl.AreCities(ways)), says("TourLong", one, long), says("NearTour", two, near), says("BestTour", three, best, least),
		says("SwapTour", four, swapped, turns), says("MoveTour", five, moved, moves), says("CityTree", six, tree, sum), says("TourBound", seven, bound),
		says("RaisedBound", eight, raised, prices), says("ToursShared", nine, shared),
	}
}

// edgeNumbersOfTours are integers at limits, and one beyond them.
func edgeNumbersOfTours() []int64 {
	return []int64{
		0, 1, 2, 3, 8, 9, 10, 11, 15, 16, 17, 49, 50, 51, 63, 64, 65, 255, 256, 999, 1000, 1001, 65535, 65536,
		-1, -2, -1000, 1 << 32, 1<<32 + 1, 1 << 62, math.MaxInt64, math.MinInt64,
	}
}

// edgeListsOfTours are lists of all kinds.
func edgeListsOfTours() [][]int64 {
	lists := append(append(wrongSizes(), wrongWays()...), wrongTours()...)
	for _, n := range edgeNumbersOfTours() {
		lists = append(lists, ints(n), ints(1, n), ints(n, n, n))
	}
	return append(lists, square(), kite(), equalWays(10, 1000), ints(0, 1000, 1000, 0), repeat(16, int64(1000)), onesOf(16), ints(1, 2, 3))
}

func TestFunctionsOfThingsAlwaysReturn(t *testing.T) {
	state := sequence(12)
	numbers := edgeNumbersOfTours()
	all := append(manyThings(160), wrongThings()...)
	for _, list := range edgeListsOfTours() {
		all = append(all, things{list, list, 5}, things{ints(1, 2), list, 5}, things{list, ints(1, 2), 5})
	}
	for _, c := range all {
		sizes, gains := keep(c.sizes, 77), keep(c.gains, 78)
		for _, room := range append(numbers[state.below(len(numbers)):][:1], c.room) {
			first, again := outcomesOfThings(sizes.list, gains.list, room), outcomesOfThings(sizes.list, gains.list, room)
			checkOutcomes(t, fmt.Sprintf("%.99s and %d", fmt.Sprint(c), room), first, again)
		}
		sizes.is(t, "a function of things")
		gains.is(t, "a function of things")
	}
	for _, room := range numbers {
		first, again := outcomesOfThings(ints(1, 2), ints(3, 4), room), outcomesOfThings(ints(1, 2), ints(3, 4), room)
		checkOutcomes(t, fmt.Sprint("two things and ", room), first, again)
	}
}

func TestFunctionsOfSetsAlwaysReturn(t *testing.T) {
	all := append(manyFamilies(160), wrongFamilies()...)
	for _, list := range edgeListsOfTours() {
		for _, n := range edgeNumbersOfTours() {
			all = append(all, family{n, list})
		}
	}
	for _, c := range all {
		sets := keep(c.sets, 77)
		first, again := outcomesOfSets(c.n, sets.list), outcomesOfSets(c.n, sets.list)
		checkOutcomes(t, fmt.Sprintf("%.99s", fmt.Sprint(c)), first, again)
		sets.is(t, "a function of sets")
	}
}

func TestFunctionsOfWaysAlwaysReturn(t *testing.T) {
	state := sequence(13)
	numbers := edgeNumbersOfTours()
	some := func() int64 { return numbers[state.below(len(numbers))] }
	for _, list := range append(edgeListsOfTours(), manyWays(70)...) {
		ways := keep(list, 77)
		for _, tour := range append(wrongTours(), someTour(&state, int(min(10, sideOf(list)))), numbersTo(sideOf(list))) {
			order := keep(tour, 78)
			s := cityArguments{order.list, some(), some(), some()}
			if state.below(2) == 0 {
				s.from, s.rounds, s.workers = int64(state.below(4)), int64(state.below(4)), int64(1+state.below(8))
			}
			first, again := outcomesOfWays(ways.list, s), outcomesOfWays(ways.list, s)
			checkOutcomes(t, fmt.Sprintf("%.99s at %.99s", fmt.Sprint(list), fmt.Sprint(s)), first, again)
			order.is(t, "a function of ways")
		}
		ways.is(t, "a function of ways")
	}
}

// TestAllFunctionsOfChapter4Succeed wants that none fails where all arguments
// are as they must be, with numbers at the limits.
func TestAllFunctionsOfChapter4Succeed(t *testing.T) {
	for _, c := range []things{{ints(1), ints(0), 1}, {repeat(10, int64(1000)), repeat(10, int64(1000)), 1000}, {ints(1, 1000, 1), ints(1000, 0, 1), 1000}} {
		for _, o := range outcomesOfThings(c.sizes, c.gains, c.room) {
			wantBool(t, fmt.Sprint(o.name, " of ", c), o.ok, true)
		}
	}
	for _, c := range []family{{1, ints(1)}, {16, repeat(16, int64(65535))}, {16, onesOf(16)}} {
		for _, o := range outcomesOfSets(c.n, c.sets) {
			wantBool(t, fmt.Sprint(o.name, " of ", c), o.ok, true)
		}
	}
	for _, c := range []struct {
		ways []int64
		s    cityArguments
	}{
		{equalWays(3, 0), cityArguments{numbersTo(3), 0, 0, 1}}, {equalWays(10, 1000), cityArguments{numbersTo(10), 9, 50, 8}}, {square(), cityArguments{ints(3, 1, 0, 2), 3, 1, 2}},
	} {
		for _, o := range outcomesOfWays(c.ways, c.s) {
			wantBool(t, fmt.Sprint(o.name, " of ", c), o.ok, true)
		}
	}
}

// allToldOfTours calls all functions of chapter 4 that return slices; around is
// a tour that does not become shorter, and across one that does.
func allToldOfTours(sizes, gains, sets, ways, around, across []int64) []told {
	all, _ := impl.BestGains(sizes, gains, 5)
	pack, _, _ := impl.BestPack(sizes, gains, 5)
	quick, _, _ := impl.GreedyPack(sizes, gains, 6)
	bins, _, _ := impl.FirstBins(sizes, 5)
	set, _, _ := impl.BestHalves(sizes)
	greedy, _ := impl.GreedyCover(3, sets)
	cover, _ := impl.LeastCover(3, sets)
	near, _ := impl.NearTour(ways, 2)
	best, _, _ := impl.BestTour(ways)
	kept, _, _ := impl.SwapTour(ways, around)
	stays, _, _ := impl.MoveTour(ways, around)
	swapped, _, _ := impl.SwapTour(ways, across)
	moved, _, _ := impl.MoveTour(ways, across)
	tree, _, _ := impl.CityTree(ways)
	_, none, _ := impl.RaisedBound(ways, 0)
	_, prices, _ := impl.RaisedBound(ways, 3)
	shared, _ := impl.ToursShared(ways, 3)
	return []told{
		{"BestGains", all}, {"BestPack", pack}, {"GreedyPack", quick}, {"FirstBins", bins}, {"BestHalves", set}, {"GreedyCover", greedy}, {"LeastCover", cover},
		{"NearTour", near}, {"BestTour", best}, {"SwapTour, around", kept}, {"MoveTour, around", stays}, {"SwapTour, across", swapped}, {"MoveTour, across", moved},
		{"CityTree", tree}, {"RaisedBound without rounds", none}, {"RaisedBound", prices}, {"ToursShared", shared},
	}
}

func TestResultsOfChapter4ShareNothing(t *testing.T) {
	sizes, gains, sets, ways, around, across := ints(2, 3, 4), ints(3, 4, 5), ints(1, 2, 4, 6), kite(), ints(0, 1, 3, 2), ints(0, 1, 2, 3)
	call := func() []told { return allToldOfTours(sizes, gains, sets, ways, around, across) }
	all := call()
	arguments := func() string { return fmt.Sprint(sizes, gains, sets, ways, around, across) }
	first := fmt.Sprint(all)
	wantUnshared(t, all, arguments)
	wantText(t, "results of the same again", fmt.Sprint(call()), first)
}
