package tests

import (
	"fmt"
	"math"
	"testing"

	"loop.example/g01346/impl"
)

// family is a list of sets of numbers below n.
type family struct {
	n    int64
	sets []int64
}

// wrongFamilies are those that AreSets does not report.
func wrongFamilies() []family {
	list := []family{
		{1, nil}, {16, nil}, {1, ints(2)}, {1, ints(-1)}, {2, ints(4)}, {2, ints(3, 4)}, {2, ints(-1, 3)}, {16, ints(65536)},
		{0, ints(0)}, {-1, ints(0)}, {17, ints(0)}, {17, ints(131071)}, {63, ints(1)}, {64, ints(0)}, {65, ints(1)},
		{math.MaxInt64, ints(0)}, {math.MinInt64, ints(0)}, {1 << 32, ints(0)}, {1<<32 + 1, ints(1)},
		{1, repeat(17, int64(1))}, {16, repeat(17, int64(1))}, {16, repeat(5000, int64(1))},
		{16, ints(math.MaxInt64)}, {16, ints(math.MinInt64)}, {1, ints(1 << 32)}, {1, ints(1<<32 + 1)},
	}
	return list
}

func TestAreSets(t *testing.T) {
	for _, c := range []family{
		{1, ints(0)}, {1, ints(1)}, {1, ints(0, 1, 1, 0)}, {2, ints(3)}, {16, ints(0, 65535)}, {16, repeat(16, int64(65535))}, {3, ints(7)},
	} {
		wantBool(t, fmt.Sprint("AreSets ", c), impl.AreSets(c.n, c.sets), true)
	}
	for _, c := range wrongFamilies() {
		wantBool(t, fmt.Sprintf("AreSets %.99s", fmt.Sprint(c)), impl.AreSets(c.n, c.sets), false)
	}
}

func greedyCoverText(c family) string {
	cover, ok := impl.GreedyCover(c.n, c.sets)
	return fmt.Sprint(cover, " ", ok)
}

func leastCoverText(c family) string {
	cover, ok := impl.LeastCover(c.n, c.sets)
	return fmt.Sprint(cover, " ", ok)
}

func exactText(c family) string {
	count, ok := impl.ExactCovers(c.n, c.sets)
	return fmt.Sprint(count, " ", ok)
}

// onesOf returns the sets of one number each, from 0 to n - 1.
func onesOf(n int64) []int64 {
	var list []int64
	for i := range n {
		list = append(list, 1<<i)
	}
	return list
}

func TestCovers(t *testing.T) {
	for _, c := range []struct {
		what                 string
		family               family
		greedy, least, exact string
	}{
		{"the stage's first example", family{3, ints(3, 4, 6)}, "[0 1] true", "[0 1] true", "1 true"},
		{"the stage's second example", family{3, ints(1, 2, 4, 6)}, "[3 0] true", "[0 3] true", "2 true"},
		{"the stage's third example", family{2, ints(1, 2, 3)}, "[2] true", "[2] true", "2 true"},
		{"one number", family{1, ints(1)}, "[0] true", "[0] true", "1 true"},
		{"one number twice", family{1, ints(1, 1)}, "[0] true", "[0] true", "2 true"},
		{"a set that holds all", family{3, ints(1, 7, 7)}, "[1] true", "[1] true", "2 true"},
		{"a set that holds nothing", family{1, ints(0)}, "[] false", "[] false", "0 false"},
		{"a set that holds nothing before others", family{2, ints(0, 3)}, "[1] true", "[1] true", "0 false"},
		{"a set that holds nothing behind others", family{2, ints(2, 1, 0)}, "[0 1] true", "[0 1] true", "0 false"},
		{"a number that none holds", family{3, ints(1, 2, 3)}, "[] false", "[] false", "0 true"},
		{"the last number that none holds", family{16, ints(32767, 32767)}, "[] false", "[] false", "0 true"},
		{"all that are not the same", family{3, ints(3, 6, 5)}, "[0 1] true", "[0 1] true", "0 true"},
		{"as they are taken", family{3, ints(1, 6)}, "[1 0] true", "[0 1] true", "1 true"},
		{"more than needed by the rule", family{6, ints(0b000111, 0b111000, 0b011110)}, "[2 0 1] true", "[0 1] true", "1 true"},
		{"what is held counts no more", family{5, ints(0b00111, 0b00011, 0b11000, 0b00001)}, "[0 2] true", "[0 2] true", "1 true"},
		{"the lesser number rather than the lesser list", family{4, ints(3, 5, 10, 12)}, "[0 3] true", "[1 2] true", "2 true"},
		{"fewer sets rather than the lesser number", family{2, ints(1, 2, 0b11)}, "[2] true", "[2] true", "2 true"},
		{"most sets of one number", family{16, onesOf(16)}, fmt.Sprint(numbersTo(16), " true"), fmt.Sprint(numbersTo(16), " true"), "1 true"},
		{"most sets of all numbers", family{16, repeat(16, int64(65535))}, "[0] true", "[0] true", "16 true"},
		{"most sets, one number", family{1, repeat(16, int64(1))}, "[0] true", "[0] true", "16 true"},
		{"each number twice", family{8, append(onesOf(8), onesOf(8)...)}, "[0 1 2 3 4 5 6 7] true", "[0 1 2 3 4 5 6 7] true", "256 true"},
		{"pairs of a round", family{4, ints(3, 6, 12, 9)}, "[0 2] true", "[0 2] true", "2 true"},
		{"the greatest number alone", family{16, ints(1<<15, 1<<15-1)}, "[1 0] true", "[0 1] true", "1 true"},
	} {
		wantText(t, "GreedyCover, "+c.what, greedyCoverText(c.family), c.greedy)
		wantText(t, "LeastCover, "+c.what, leastCoverText(c.family), c.least)
		wantText(t, "ExactCovers, "+c.what, exactText(c.family), c.exact)
	}
	for _, c := range wrongFamilies() {
		what := fmt.Sprintf(" of %.99s", fmt.Sprint(c))
		wantText(t, "GreedyCover"+what, greedyCoverText(c), "[] false")
		wantText(t, "LeastCover"+what, leastCoverText(c), "[] false")
		wantText(t, "ExactCovers"+what, exactText(c), "0 false")
	}
}
