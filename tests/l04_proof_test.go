package tests

import (
	"fmt"
	"math"
	"slices"
	"sort"
	"testing"

	"loop.example/g01346/impl"
)

// This file goes on with the model of chapter 4, for tours, and looks at all
// orders of cities.

// manyWays returns ways of 1 to 10 cities, and of several kinds: equal ones, ways
// of 0, few lengths, many lengths, and those of points.
func manyWays(count int) [][]int64 {
	state := sequence(8)
	var list [][]int64
	for i := range count {
		n := 1 + i%10
		spread := []int{1, 2, 3, 6, 40, 1001, 0}[i/10%7]
		var points [][]int
		for range n {
			points = append(points, []int{state.below(400), state.below(400)})
		}
		var rows [][]int64
		for from := 1; from < n; from++ {
			var row []int64
			for to := range from {
				if spread > 0 {
					row = append(row, int64(state.below(spread)))
					continue
				}
				across, along := float64(points[from][0]-points[to][0]), float64(points[from][1]-points[to][1])
				row = append(row, int64(math.Hypot(across, along)))
			}
			rows = append(rows, row)
		}
		list = append(list, waysOf(rows...))
	}
	return list
}

// cityModel has ways between so many cities, of any length.
type cityModel struct {
	n    int
	long func(from, to int) int64
}

func modelOfCities(ways []int64) cityModel {
	n := int(sideOf(ways))
	return cityModel{n, func(from, to int) int64 { return ways[from*n+to] }}
}

func (m cityModel) around(tour []int64) int64 {
	sum := int64(0)
	for i := range tour {
		sum += m.long(int(tour[i]), int(tour[(i+1)%len(tour)]))
	}
	return sum
}

// allTours visits all tours that begin with 0, the first ones first.
func (m cityModel) allTours(visit func(tour []int64)) {
	used := make([]bool, m.n)
	var step func(tour []int64)
	step = func(tour []int64) {
		if len(tour) == m.n {
			visit(tour)
		}
		for city := range m.n {
			if !used[city] {
				used[city] = true
				step(append(tour, int64(city)))
				used[city] = false
			}
		}
	}
	used[0] = true
	step(append(make([]int64, 0, m.n), 0))
}

func (m cityModel) best() ([]int64, int64) {
	var best []int64
	least := int64(math.MaxInt64)
	m.allTours(func(tour []int64) {
		if long := m.around(tour); long < least {
			best, least = append([]int64(nil), tour...), long
		}
	})
	return best, least
}

// TestNoTourIsBetter is about promise 5: no tour is shorter than the best one,
// and none is shorter than the bounds.
func TestNoTourIsBetter(t *testing.T) {
	for i, ways := range manyWays(280) {
		m := modelOfCities(ways)
		if m.n > 8 && i%7 != 6 || m.n == 10 && i > 70 {
			continue
		}
		best, least := m.best()
		wantText(t, fmt.Sprint("BestTour of ", ways), bestTourText(ways), fmt.Sprint(best, " ", least, " true"))
	}
	raised := 0
	for i, ways := range manyWays(1120) {
		_, best, _ := impl.BestTour(ways)
		_, sum, ok := impl.CityTree(ways)
		wantBool(t, fmt.Sprint("CityTree of ", ways), ok && sum <= best, true)
		for from := range sideOf(ways) {
			tour, _ := impl.NearTour(ways, from)
			near, _ := impl.TourLong(ways, tour)
			turned, _, _ := impl.SwapTour(ways, tour)
			swapped, _ := impl.TourLong(ways, turned)
			placed, _, _ := impl.MoveTour(ways, tour)
			moved, _ := impl.TourLong(ways, placed)
			if swapped < best || moved < best || near < swapped || near < moved {
				t.Errorf("tours of %v from %d: %d, made %d and %d, and the best one is %d", ways, from, near, swapped, moved, best)
			}
		}
		bound, ok := impl.TourBound(ways)
		better, _, _ := impl.RaisedBound(ways, int64(i%51))
		if ok && (bound > better || better > best) {
			t.Errorf("bounds of %v: %d and %d, and the best tour is %d", ways, bound, better, best)
		}
		if better > bound {
			raised++
		}
	}
	if raised < 100 {
		t.Errorf("%d bounds are raised", raised)
	}
}

func TestBoundsAreNotLoweredByMoreRounds(t *testing.T) {
	for _, ways := range manyWays(70) {
		last := int64(math.MinInt64)
		for rounds := range int64(51) {
			bound, _, _ := impl.RaisedBound(ways, rounds)
			if bound < last {
				t.Errorf("RaisedBound of %v with %d rounds: got %d, but %d before", ways, rounds, bound, last)
			}
			last = bound
		}
	}
}

func (m cityModel) near(from int64) []int64 {
	tour := []int64{from}
	for len(tour) < m.n {
		next := int64(-1)
		last := int(tour[len(tour)-1])
		for city := m.n - 1; city >= 0; city-- {
			if !contains(tour, int64(city)) && (next < 0 || m.long(last, city) <= m.long(last, int(next))) {
				next = int64(city)
			}
		}
		tour = append(tour, next)
	}
	return tour
}

// swapped turns a part from i to k around.
func swapped(tour []int64, i, k int) []int64 {
	var list []int64
	for place := range tour {
		if i <= place && place <= k {
			place = i + k - place
		}
		list = append(list, tour[place])
	}
	return list
}

// moved puts the city with the index i to the index k.
func moved(tour []int64, i, k int) []int64 {
	var left []int64
	for place, city := range tour {
		if place != i {
			left = append(left, city)
		}
	}
	list := append([]int64(nil), left[:k]...)
	return append(append(list, tour[i]), left[k:]...)
}

// once returns the first shorter tour.
func (m cityModel) once(tour []int64, ends func(i int) int, change func(tour []int64, i, k int) []int64) ([]int64, bool) {
	for i := range tour {
		for k := ends(i); k < m.n; k++ {
			if k != i {
				if next := change(tour, i, k); m.around(next) < m.around(tour) {
					return next, true
				}
			}
		}
	}
	return nil, false
}

func (m cityModel) shortened(tour []int64, ends func(i int) int, change func(tour []int64, i, k int) []int64) string {
	for times := 0; ; times++ {
		next, ok := m.once(tour, ends, change)
		if !ok {
			return fmt.Sprint(tour, " ", times, " true")
		}
		tour = next
	}
}

func (m cityModel) swapText(tour []int64) string {
	return m.shortened(tour, func(i int) int { return i + 1 }, swapped)
}

func (m cityModel) moveText(tour []int64) string {
	return m.shortened(tour, func(int) int { return 0 }, moved)
}

// someTour returns an order of n cities.
func someTour(state *sequence, n int) []int64 {
	tour := numbersTo(int64(n))
	for i := range tour {
		k := i + state.below(n-i)
		tour[i], tour[k] = tour[k], tour[i]
	}
	return tour
}

func TestToursAreThoseOfTheModel(t *testing.T) {
	state := sequence(10)
	for _, ways := range manyWays(700) {
		m := modelOfCities(ways)
		tour := someTour(&state, m.n)
		what := fmt.Sprint(" of ", tour, " at ", ways)
		wantText(t, "TourLong"+what, longText(ways, tour), fmt.Sprint(m.around(tour), " true"))
		wantText(t, "SwapTour"+what, swapText(ways, tour), m.swapText(tour))
		wantText(t, "MoveTour"+what, moveText(ways, tour), m.moveText(tour))
		for from := range int64(m.n) {
			wantText(t, fmt.Sprint("NearTour of ", ways, " from ", from), nearText(ways, from), fmt.Sprint(m.near(from), " true"))
		}
	}
}

// TestShortenedToursBecomeNoShorter wants that no other turn or move makes a
// tour shorter.
func TestShortenedToursBecomeNoShorter(t *testing.T) {
	state := sequence(11)
	for _, ways := range manyWays(350) {
		m := modelOfCities(ways)
		tour := someTour(&state, m.n)
		turned, _, _ := impl.SwapTour(ways, tour)
		placed, _, _ := impl.MoveTour(ways, tour)
		for i := range tour {
			for k := range tour {
				if i < k && m.around(swapped(turned, i, k)) < m.around(turned) {
					t.Errorf("SwapTour of %v at %v: got %v", tour, ways, turned)
				}
				if m.around(moved(placed, i, k)) < m.around(placed) {
					t.Errorf("MoveTour of %v at %v: got %v", tour, ways, placed)
				}
			}
		}
	}
}

// modelEdge is a way from one city to another one.
type modelEdge struct {
	long     int64
	from, to int
}

func (m cityModel) sorted(take func(from, to int) bool) []modelEdge {
	var edges []modelEdge
	for from := range m.n {
		for to := range m.n {
			if from != to && take(from, to) {
				edges = append(edges, modelEdge{m.long(from, to), from, to})
			}
		}
	}
	sort.Slice(edges, func(i, j int) bool {
		a, b := edges[i], edges[j]
		if a.long != b.long {
			return a.long < b.long
		}
		return a.from < b.from || a.from == b.from && a.to < b.to
	})
	return edges
}

// tree begins with a city, and joins all behind it.
func (m cityModel) tree(first int) []modelEdge {
	in := map[int]bool{first: true}
	var tree []modelEdge
	for len(in) < m.n-first {
		next := m.sorted(func(from, to int) bool { return in[from] && !in[to] && to >= first })[0]
		in[next.to] = true
		tree = append(tree, next)
	}
	return tree
}

func sumOfEdges(edges []modelEdge) int64 {
	sum := int64(0)
	for _, e := range edges {
		sum += e.long
	}
	return sum
}

// leastTree returns the least sum of edges that join all cities from first on:
// edges are taken in ascending order.
func (m cityModel) leastTree(first int) int64 {
	groups := numbersTo(int64(m.n))
	sum := int64(0)
	for _, e := range m.sorted(func(from, to int) bool { return first <= from && from < to }) {
		if kept, gone := groups[e.from], groups[e.to]; kept != gone {
			sum += e.long
			for city := range groups {
				if groups[city] == gone {
					groups[city] = kept
				}
			}
		}
	}
	return sum
}

func TestCityTreesAreThoseOfTheModel(t *testing.T) {
	for _, ways := range manyWays(700) {
		m := modelOfCities(ways)
		var pairs []int64
		edges := m.tree(0)
		for _, e := range edges {
			pairs = append(pairs, int64(e.from), int64(e.to))
		}
		wantText(t, fmt.Sprint("CityTree of ", ways), treeText(ways), fmt.Sprint(pairs, " ", sumOfEdges(edges), " true"))
		_, sum, _ := impl.CityTree(ways)
		if least := m.leastTree(0); sum != least {
			t.Errorf("CityTree of %v: got %d, want %d", ways, sum, least)
		}
	}
}

// priced returns ways to which the prices of both cities are added.
func (m cityModel) priced(prices []int64) cityModel {
	return cityModel{m.n, func(from, to int) int64 { return m.long(from, to) + prices[from] + prices[to] }}
}

// boundEdges returns the edges of a bound.
func (m cityModel) boundEdges() []modelEdge {
	return append(m.sorted(func(from, to int) bool { return from == 0 })[:2], m.tree(1)...)
}

func (m cityModel) raised(rounds int64) (int64, []int64) {
	prices := make([]int64, m.n)
	var best int64
	var kept []int64
	for round := range rounds + 1 {
		edges := m.priced(prices).boundEdges()
		bound := sumOfEdges(edges) - 2*sumOfAll(prices)
		if round == 0 || bound > best {
			best, kept = bound, slices.Clone(prices)
		}
		next := slices.Clone(prices)
		for city := range next {
			for _, e := range edges {
				if e.from == city || e.to == city {
					next[city]++
				}
			}
			next[city] -= 2
		}
		prices = next
	}
	return best, kept
}

func TestBoundsAreThoseOfTheModel(t *testing.T) {
	kept := 0
	for i, ways := range manyWays(700) {
		m := modelOfCities(ways)
		if m.n < 3 {
			wantText(t, fmt.Sprint("TourBound of ", ways), tourBoundText(ways), "0 false")
			continue
		}
		wantText(t, fmt.Sprint("TourBound of ", ways), tourBoundText(ways), fmt.Sprint(sumOfEdges(m.boundEdges()), " true"))
		rounds := []int64{0, 1, 2, 3, 7, 20, 49, 50}[i%8]
		bound, prices := m.raised(rounds)
		wantText(t, fmt.Sprint("RaisedBound of ", ways, " with rounds ", rounds), raisedText(ways, rounds), fmt.Sprint(bound, " ", prices, " true"))
		if _, before := m.raised(rounds - 1); rounds > 0 && slices.Equal(before, prices) {
			kept++
		}
	}
	if kept < 100 {
		t.Errorf("only %d bounds are kept in the last round", kept)
	}
}

// TestPricesProveTheirBounds wants the bound to be told by its prices alone: the
// least tree and the two shortest edges of 0 with them, less what all of them
// add to a tour.
func TestPricesProveTheirBounds(t *testing.T) {
	for i, ways := range manyWays(700) {
		bound, prices, ok := impl.RaisedBound(ways, int64(i%51))
		m := modelOfCities(ways)
		if !ok {
			wantBool(t, fmt.Sprint("RaisedBound of ", ways), m.n < 3, true)
			continue
		}
		p := m.priced(prices)
		edges := p.sorted(func(from, to int) bool { return from == 0 })
		told := p.leastTree(1) + edges[0].long + edges[1].long - 2*sumOfAll(prices)
		if bound != told {
			t.Errorf("RaisedBound of %v: got %d, but its prices %v tell %d", ways, bound, prices, told)
		}
	}
}

// TestAnyNumberOfWorkersFindsTheSameTours wants what one worker finds, for all
// numbers of them, and what the functions tell one after another.
func TestAnyNumberOfWorkersFindsTheSameTours(t *testing.T) {
	for _, ways := range manyWays(140) {
		m := modelOfCities(ways)
		var longs []int64
		for from := range int64(m.n) {
			tour, _ := impl.NearTour(ways, from)
			turned, _, _ := impl.SwapTour(ways, tour)
			longs = append(longs, m.around(turned))
		}
		for workers := range int64(8) {
			wantText(t, fmt.Sprint("ToursShared of ", ways, " with workers ", workers+1), toursText(ways, workers+1), fmt.Sprint(longs, " true"))
		}
	}
}
