package tests

import (
	"fmt"
	"math"
	"testing"

	"loop.example/g01346/impl"
)

func TestRentCost(t *testing.T) {
	for _, c := range []struct {
		what             string
		days, buy, limit int64
		want             string
	}{
		{"the stage's example", 5, 10, 3, "13 true"},
		{"as many days as the limit", 3, 10, 3, "3 true"},
		{"one day more", 4, 10, 3, "13 true"},
		{"one day less", 2, 10, 3, "2 true"},
		{"no days", 0, 10, 0, "0 true"},
		{"no limit", 1, 10, 0, "10 true"},
		{"buying costs nothing", 9, 0, 4, "4 true"},
		{"all are 0", 0, 0, 0, "0 true"},
		{"numbers at the limits", 100000, 100000, 100000, "100000 true"},
		{"one less limit", 100000, 100000, 99999, "199999 true"},
	} {
		wantText(t, "RentCost, "+c.what, numberText(impl.RentCost(c.days, c.buy, c.limit)), c.want)
	}
	for _, n := range []int64{-1, 100001, math.MaxInt64, math.MinInt64, 1 << 32, 1<<32 + 1} {
		wantText(t, fmt.Sprint("RentCost, days ", n), numberText(impl.RentCost(n, 1, 1)), "0 false")
		wantText(t, fmt.Sprint("RentCost, buy ", n), numberText(impl.RentCost(1, n, 1)), "0 false")
		wantText(t, fmt.Sprint("RentCost, limit ", n), numberText(impl.RentCost(1, 1, n)), "0 false")
	}
}

// faultsText tells the faults of all rules.
func faultsText(asks []int64, room int64) string {
	text := ""
	for rule := range int64(3) {
		text += numberText(impl.FaultsOf(asks, room, rule)) + " "
	}
	return text
}

// twice returns the integers from 0 to n - 1, and all of them again.
func twice(n int64) []int64 { return append(numbersTo(n), numbersTo(n)...) }

// beladyAsks are asks that have more faults in a greater room by the rule 0.
func beladyAsks() []int64 { return ints(1, 2, 3, 4, 1, 2, 5, 1, 2, 3, 4, 5) }

// wrongAsks are no asks.
func wrongAsks() [][]int64 {
	return [][]int64{
		nil, {}, repeat(65, int64(0)), repeat(5000, int64(0)), {-1}, {64}, {0, 64}, {64, 0}, {0, -1}, {0, 1, math.MaxInt64}, {math.MinInt64, 1}, {1 << 32}, {1<<32 + 1},
	}
}

func TestFaultsOf(t *testing.T) {
	for _, c := range []struct {
		what string
		asks []int64
		room int64
		want string
	}{
		{"the example", ints(0, 1, 0, 2, 0), 2, "4 true 3 true 3 true "},
		{"one ask", ints(7), 1, "1 true 1 true 1 true "},
		{"a room of one place", ints(0, 0, 1, 1, 0, 1), 1, "4 true 4 true 4 true "},
		{"the same again", repeat(64, int64(63)), 1, "1 true 1 true 1 true "},
		{"asks that come again never", ints(0, 1, 2, 3, 4), 2, "5 true 5 true 5 true "},
		{"all that come again never go out first", ints(0, 1, 2, 3, 0, 0, 2, 3), 3, "5 true 5 true 4 true "},
		{"one that comes again never goes out before one that comes late", ints(0, 1, 2, 2, 2, 0), 2, "4 true 4 true 3 true "},
		{"the latest one goes out", ints(0, 1, 2, 0, 1, 3), 2, "6 true 6 true 5 true "},
		{"a room that is not filled", ints(0, 1, 2, 0, 1, 2), 4, "3 true 3 true 3 true "},
		{"a room that is just filled", ints(0, 1, 2, 0, 1, 2), 3, "3 true 3 true 3 true "},
		{"three places", beladyAsks(), 3, "9 true 10 true 7 true "},
		{"four places", beladyAsks(), 4, "10 true 8 true 6 true "},
		{"the rule 0 better than the rule 1", ints(0, 1, 0, 2, 1), 2, "3 true 4 true 3 true "},
		{"what is asked for again stays by the rule 1", ints(0, 1, 2, 0, 3, 0, 4, 0), 3, "6 true 5 true 5 true "},
		{"most places", twice(16), 16, "16 true 16 true 16 true "},
		{"one more than most places", twice(17), 16, "34 true 34 true 18 true "},
		{"most asks", numbersTo(64), 16, "64 true 64 true 64 true "},
	} {
		wantText(t, "FaultsOf, "+c.what, faultsText(c.asks, c.room), c.want)
	}
	fails := "0 false 0 false 0 false "
	for _, asks := range wrongAsks() {
		wantText(t, fmt.Sprintf("FaultsOf %.99s", fmt.Sprint(asks)), faultsText(asks, 2), fails)
	}
	for _, n := range []int64{-1, math.MaxInt64, math.MinInt64, 1 << 32, 1<<32 + 1, 17} {
		wantText(t, fmt.Sprint("FaultsOf in a room of ", n), faultsText(ints(1, 2), n), fails)
		wantText(t, fmt.Sprint("FaultsOf by the rule ", n), numberText(impl.FaultsOf(ints(1, 2), 2, n)), "0 false")
	}
	wantText(t, "FaultsOf in a room of none", faultsText(ints(1, 2), 0), fails)
	wantText(t, "FaultsOf by one rule more", numberText(impl.FaultsOf(ints(1, 2), 2, 3)), "0 false")
}

func frontText(asks []int64, n int64) string {
	cost, list, ok := impl.FrontCost(asks, n)
	return fmt.Sprint(cost, " ", list, " ", ok)
}

// backwards returns the integers from n - 1 down to 0.
func backwards(n int64) []int64 {
	var list []int64
	for i := n - 1; i >= 0; i-- {
		list = append(list, i)
	}
	return list
}

func TestFrontCost(t *testing.T) {
	for _, c := range []struct {
		what string
		asks []int64
		n    int64
		want string
	}{
		{"the stage's example", ints(2, 2, 0), 3, "6 [0 2 1] true"},
		{"one thing", ints(0), 1, "1 [0] true"},
		{"the first one stays in front", ints(0, 0), 3, "2 [0 1 2] true"},
		{"the last one", ints(3), 4, "4 [3 0 1 2] true"},
		{"one in the middle", ints(1), 4, "2 [1 0 2 3] true"},
		{"turn by turn", ints(0, 1, 0, 1), 2, "7 [1 0] true"},
		{"all of them", numbersTo(64), 64, fmt.Sprint("2080 ", backwards(64), " true")},
		{"the worst ones", backwards(4), 4, "16 [0 1 2 3] true"},
		{"most asks for the last one", repeat(64, int64(63)), 64, fmt.Sprint("127 ", append(ints(63), numbersTo(63)...), " true")},
		{"most asks for one thing", repeat(64, int64(0)), 1, "64 [0] true"},
	} {
		wantText(t, "FrontCost, "+c.what, frontText(c.asks, c.n), c.want)
	}
	for _, asks := range wrongAsks() {
		wantText(t, fmt.Sprintf("FrontCost of %.99s", fmt.Sprint(asks)), frontText(asks, 64), "0 [] false")
	}
	for _, n := range []int64{0, -1, 65, math.MaxInt64, math.MinInt64, 1 << 32, 1<<32 + 1} {
		wantText(t, fmt.Sprint("FrontCost with n ", n), frontText(ints(0), n), "0 [] false")
	}
	for _, asks := range [][]int64{{3}, {0, 3}, {3, 0}, {1, 63}} {
		wantText(t, fmt.Sprint("FrontCost of what is not there, ", asks), frontText(asks, 3), "0 [] false")
	}
}

func TestPickAfter(t *testing.T) {
	least, most := int64(math.MinInt64), int64(math.MaxInt64)
	for _, c := range []struct {
		what string
		list []int64
		look int64
		want string
	}{
		{"the stage's example", ints(3, 1, 2, 5), 2, "3 true"},
		{"one number", ints(7), 0, "0 true"},
		{"all of none are less", ints(1, 2, 3), 0, "0 true"},
		{"also of the least number", ints(least, 2), 0, "0 true"},
		{"the first one that is greater", ints(2, 1, 3, 9), 1, "2 true"},
		{"all before look count", ints(5, 1, 3, 6), 2, "3 true"},
		{"the last one before look counts", ints(1, 5, 3, 6), 2, "3 true"},
		{"those behind look do not count", ints(5, 9, 6, 7), 1, "1 true"},
		{"none is greater", ints(5, 1, 2, 3), 1, "3 true"},
		{"equal ones are not greater", ints(3, 3, 4, 3), 1, "2 true"},
		{"all are equal", ints(3, 3, 3), 1, "2 true"},
		{"the last one alone, greater", ints(1, 2, 9), 2, "2 true"},
		{"the last one alone, less", ints(9, 2, 1), 2, "2 true"},
		{"a number below 0", ints(-5, -9, -4, 0), 1, "2 true"},
		{"the greatest number comes first", ints(most, 1, 2, most), 1, "3 true"},
		{"the greatest number comes last", ints(most-1, 1, most, 2), 1, "2 true"},
		{"the least number comes first", ints(least, least, least+1, 0), 1, "2 true"},
		{"most numbers", numbersTo(64), 63, "63 true"},
		{"most numbers, descending", backwards(64), 1, "63 true"},
	} {
		wantText(t, "PickAfter, "+c.what, numberText(impl.PickAfter(c.list, c.look)), c.want)
	}
	for _, look := range []int64{-1, 3, 4, most, least, 1 << 32, 1<<32 + 1} {
		wantText(t, fmt.Sprint("PickAfter look ", look), numberText(impl.PickAfter(ints(1, 2, 3), look)), "0 false")
	}
	for _, list := range [][]int64{nil, {}, repeat(65, int64(0)), repeat(5000, int64(0))} {
		wantText(t, fmt.Sprintf("PickAfter of %d numbers", len(list)), numberText(impl.PickAfter(list, 0)), "0 false")
	}
}
