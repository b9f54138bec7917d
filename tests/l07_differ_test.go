package tests

import (
	"fmt"
	"math"
	"testing"

	"loop.example/g01346/impl"
)

func rightDomains() [][][]int64 {
	return [][][]int64{
		lists(ints(0)), lists(ints(31)), lists(ints(0, 31)), lists(numbersTo(8)), lists(ints(24, 25, 26, 27, 28, 29, 30, 31)), lists(ints(0), ints(0)),
		lists(ints(0), ints(0, 1)), repeat(6, numbersTo(8)), repeat(6, ints(7)), repeat(6, numbersTo(5)), lists(ints(1), ints(2), ints(3), ints(4), ints(5), ints(6)),
	}
}

func wrongDomains() [][][]int64 {
	list := [][][]int64{
		nil, {}, {nil}, {{}}, lists(ints(0), nil), lists(nil, ints(0)), lists(ints(0), nil, ints(1)), repeat(7, ints(0)), repeat(7, numbersTo(8)), repeat(5000, ints(0)),
		lists(numbersTo(9)), lists(ints(0), numbersTo(9)), lists(numbersTo(32)), lists(numbersTo(5000)), lists(ints(0, 0)), lists(ints(1, 0)), lists(ints(0, 2, 1)), lists(ints(0, 2, 2)),
		lists(ints(0, 1), ints(3, 3)), lists(ints(0, 1, 2, 3, 4, 5, 7, 6)), lists(ints(-1, 0)), lists(ints(31, 32)),
	}
	for _, n := range []int64{-1, 32, 33, 63, 64, math.MaxInt64, math.MinInt64, 1 << 32, 1<<32 + 1} {
		list = append(list, lists(ints(n)), lists(ints(0), ints(n)), lists(ints(n), ints(0)))
	}
	return list
}

func TestAreDomains(t *testing.T) {
	for _, domains := range rightDomains() {
		wantBool(t, fmt.Sprint("AreDomains ", domains), impl.AreDomains(domains), true)
	}
	for _, domains := range wrongDomains() {
		wantBool(t, fmt.Sprintf("AreDomains %.99s", fmt.Sprint(domains)), impl.AreDomains(domains), false)
	}
}

func firstDifferText(domains [][]int64) string { return listText(impl.FirstDiffer(domains)) }
func countDiffersText(domains [][]int64) string {
	return numberText(impl.CountDiffers(domains))
}
func tightText(domains [][]int64) string { return listText(impl.TightSets(domains)) }
func narrowText(domains [][]int64) string {
	narrow, ok := impl.NarrowDiffers(domains)
	return fmt.Sprint(narrow, " ", ok)
}

func TestThingsThatDiffer(t *testing.T) {
	for _, c := range []struct {
		what                        string
		domains                     [][]int64
		first, count, narrow, tight string
	}{
		{"one domain of one number", lists(ints(31)), "[31] true", "1 true", "[[31]] true", "[0 1] true"},
		{"one domain of most numbers", lists(numbersTo(8)), "[0] true", "8 true", "[[0 1 2 3 4 5 6 7]] true", "[0] true"},
		{"the document's example", lists(ints(0), ints(0, 1)), "[0 1] true", "1 true", "[[0] [1]] true", "[0 1 3] true"},
		{"the document's example, turned", lists(ints(0, 1), ints(0)), "[1 0] true", "1 true", "[[1] [0]] true", "[0 2 3] true"},
		{"all one number", lists(ints(0), ints(0)), "[] false", "0 true", "[] false", "[0 1 2] true"},
		{"one number in most domains", repeat(6, ints(31)), "[] false", "0 true", "[] false", "[0 1 2 4 8 16 32] true"},
		{"two domains of two numbers", lists(ints(0, 1), ints(0, 1)), "[0 1] true", "2 true", "[[0 1] [0 1]] true", "[0 3] true"},
		{"three domains of two numbers", repeat(3, ints(0, 1)), "[] false", "0 true", "[] false", "[0 3 5 6] true"},
		{"two domains leave one number to another", lists(ints(0, 1, 2), ints(0, 2), ints(0, 2)), "[1 0 2] true", "2 true", "[[1] [0 2] [0 2]] true", "[0 6 7] true"},
		{"numbers that are in one domain", lists(ints(3, 5), ints(4), ints(6, 7)), "[3 4 6] true", "4 true", "[[3 5] [4] [6 7]] true", "[0 2] true"},
		{"one number follows from another", lists(ints(0), ints(0, 1), ints(1, 2), ints(2, 3)), "[0 1 2 3] true", "1 true", "[[0] [1] [2] [3]] true", "[0 1 3 7 15] true"},
		{"no choice, but all are tight together", lists(ints(5), ints(1, 2), ints(5)), "[] false", "0 true", "[] false", "[0 1 4 7] true"},
		{"as many numbers as domains", repeat(6, numbersTo(6)), "[0 1 2 3 4 5] true", "720 true", "[[0 1 2 3 4 5] [0 1 2 3 4 5] [0 1 2 3 4 5] [0 1 2 3 4 5] [0 1 2 3 4 5] [0 1 2 3 4 5]] true", "[0 63] true"},
		{"one number too few", repeat(6, numbersTo(5)), "[] false", "0 true", "[] false", "[0 31 47 55 59 61 62] true"},
		{"most numbers of most domains", repeat(6, numbersTo(8)), "[0 1 2 3 4 5] true", "20160 true", "[[0 1 2 3 4 5 6 7] [0 1 2 3 4 5 6 7] [0 1 2 3 4 5 6 7] [0 1 2 3 4 5 6 7] [0 1 2 3 4 5 6 7] [0 1 2 3 4 5 6 7]] true", "[0] true"},
		{"domains that share nothing", lists(ints(0, 1), ints(30, 31), ints(15, 16)), "[0 30 15] true", "8 true", "[[0 1] [30 31] [15 16]] true", "[0] true"},
	} {
		wantText(t, "FirstDiffer, "+c.what, firstDifferText(c.domains), c.first)
		wantText(t, "CountDiffers, "+c.what, countDiffersText(c.domains), c.count)
		wantText(t, "NarrowDiffers, "+c.what, narrowText(c.domains), c.narrow)
		wantText(t, "TightSets, "+c.what, tightText(c.domains), c.tight)
	}
	for _, domains := range wrongDomains() {
		what := fmt.Sprintf(" of %.99s", fmt.Sprint(domains))
		wantText(t, "FirstDiffer"+what, firstDifferText(domains), "[] false")
		wantText(t, "CountDiffers"+what, countDiffersText(domains), "0 false")
		wantText(t, "NarrowDiffers"+what, narrowText(domains), "[] false")
		wantText(t, "TightSets"+what, tightText(domains), "[] false")
	}
}

func TestQueens(t *testing.T) {
	for n, c := range []struct{ first, count string }{
		{"[] false", "0 false"}, {"[0] true", "1 true"}, {"[] false", "0 true"}, {"[] false", "0 true"}, {"[1 3 0 2] true", "2 true"},
		{"[0 2 4 1 3] true", "10 true"}, {"[1 3 5 0 2 4] true", "4 true"}, {"[0 2 4 6 1 3 5] true", "40 true"}, {"[0 4 7 5 2 6 1 3] true", "92 true"}, {"[] false", "0 false"},
	} {
		wantText(t, fmt.Sprint("FirstQueens ", n), listText(impl.FirstQueens(int64(n))), c.first)
		wantText(t, fmt.Sprint("CountQueens ", n), numberText(impl.CountQueens(int64(n))), c.count)
	}
	for _, n := range []int64{-1, -4, 10, math.MaxInt64, math.MinInt64, 1 << 32, 1<<32 + 4} {
		wantText(t, fmt.Sprint("FirstQueens ", n), listText(impl.FirstQueens(n)), "[] false")
		wantText(t, fmt.Sprint("CountQueens ", n), numberText(impl.CountQueens(n)), "0 false")
	}
}

// squareCase is a square of which some numbers are known.
type squareCase struct {
	n     int64
	cells []int64
}

// emptySquare is one of which none is known.
func emptySquare(n int64) squareCase { return squareCase{n, make([]int64, n*n)} }

func fillSquareText(c squareCase) string   { return listText(impl.FillSquare(c.n, c.cells)) }
func countSquaresText(c squareCase) string { return numberText(impl.CountSquares(c.n, c.cells)) }

func wrongSquares() []squareCase {
	list := []squareCase{
		{0, nil}, {0, ints(0)}, {1, nil}, {1, ints(0, 0)}, {2, ints(0, 0, 0)}, {2, ints(0, 0, 0, 0, 0)}, {2, ints(0)}, {3, make([]int64, 8)}, {3, make([]int64, 10)},
		{4, make([]int64, 25)}, {5, make([]int64, 16)}, {5, make([]int64, 24)}, {5, make([]int64, 26)}, {5, make([]int64, 5000)}, {-1, ints(0)}, {-2, ints(0, 0, 0, 0)}, emptySquare(6), emptySquare(7),
		{math.MaxInt64, ints(0)}, {math.MinInt64, nil}, {1 << 32, nil}, {1<<32 + 1, ints(0)}, {1<<32 + 2, ints(0, 0, 0, 0)},
	}
	for _, n := range []int64{-1, 3, 4, math.MaxInt64, math.MinInt64, 1 << 32, 1<<32 + 1} {
		list = append(list, squareCase{2, ints(n, 0, 0, 0)}, squareCase{2, ints(0, 0, 0, n)}, squareCase{2, ints(0, n, 1, 0)})
	}
	return append(list, squareCase{1, ints(2)}, squareCase{5, withAt(make([]int64, 25), 12, 6)}, squareCase{5, withAt(make([]int64, 25), 24, -1)})
}

func TestSquares(t *testing.T) {
	for _, c := range []struct {
		what        string
		square      squareCase
		fill, count string
	}{
		{"one cell", emptySquare(1), "[1] true", "1 true"},
		{"one cell that is full", squareCase{1, ints(1)}, "[1] true", "1 true"},
		{"the stage's examples", squareCase{2, ints(0, 1, 0, 0)}, "[2 1 1 2] true", "1 true"},
		{"empty, of two rows", emptySquare(2), "[1 2 2 1] true", "2 true"},
		{"full", squareCase{2, ints(2, 1, 1, 2)}, "[2 1 1 2] true", "1 true"},
		{"full, but a row has a number twice", squareCase{2, ints(1, 1, 2, 2)}, "[] false", "0 true"},
		{"full, but a column has a number twice", squareCase{2, ints(1, 2, 1, 2)}, "[] false", "0 true"},
		{"a number twice in the first row", squareCase{2, ints(1, 1, 0, 0)}, "[] false", "0 true"},
		{"a number twice in the last row", squareCase{3, ints(0, 0, 0, 0, 0, 0, 3, 0, 3)}, "[] false", "0 true"},
		{"a number twice in the last column", squareCase{3, ints(0, 0, 3, 0, 0, 0, 0, 0, 3)}, "[] false", "0 true"},
		{"no number is left for a cell", squareCase{2, ints(1, 0, 0, 2)}, "[] false", "0 true"},
		{"no number is left for two cells", squareCase{3, ints(0, 0, 1, 0, 0, 0, 2, 0, 0)}, "[3 2 1 1 3 2 2 1 3] true", "1 true"},
		{"only two numbers for three cells", squareCase{3, ints(1, 0, 0, 0, 1, 0, 0, 0, 2)}, "[] false", "0 true"},
		{"equal numbers on a slanting line", squareCase{3, ints(3, 0, 0, 0, 3, 0, 0, 0, 3)}, "[3 1 2 2 3 1 1 2 3] true", "2 true"},
		{"empty, of three rows", emptySquare(3), "[1 2 3 2 3 1 3 1 2] true", "12 true"},
		{"the last cell is known", squareCase{3, ints(0, 0, 0, 0, 0, 0, 0, 0, 1)}, "[1 2 3 3 1 2 2 3 1] true", "4 true"},
		{"empty, of four rows", emptySquare(4), "[1 2 3 4 2 1 4 3 3 4 1 2 4 3 2 1] true", "576 true"},
		{"a row is known", squareCase{4, ints(0, 0, 0, 0, 4, 3, 2, 1, 0, 0, 0, 0, 0, 0, 0, 0)}, "[1 2 3 4 4 3 2 1 2 1 4 3 3 4 1 2] true", "24 true"},
		{"most rows that are counted, one number", squareCase{4, withAt(make([]int64, 16), 15, 4)}, "[1 2 4 3 2 4 3 1 4 3 1 2 3 1 2 4] true", "144 true"},
		{"empty, of most rows", emptySquare(5), "[1 2 3 4 5 2 1 4 5 3 3 4 5 1 2 4 5 2 3 1 5 3 1 2 4] true", "0 false"},
		{"most rows, full", squareCase{5, ints(5, 4, 3, 2, 1, 4, 3, 2, 1, 5, 3, 2, 1, 5, 4, 2, 1, 5, 4, 3, 1, 5, 4, 3, 2)}, "[5 4 3 2 1 4 3 2 1 5 3 2 1 5 4 2 1 5 4 3 1 5 4 3 2] true", "0 false"},
		{"most rows that cannot be filled", squareCase{5, withAt(withAt(make([]int64, 25), 20, 5), 24, 5)}, "[] false", "0 false"},
	} {
		wantText(t, "FillSquare, "+c.what, fillSquareText(c.square), c.fill)
		wantText(t, "CountSquares, "+c.what, countSquaresText(c.square), c.count)
	}
	for _, c := range wrongSquares() {
		what := fmt.Sprintf(" %.99s", fmt.Sprint(c))
		wantText(t, "FillSquare"+what, fillSquareText(c), "[] false")
		wantText(t, "CountSquares"+what, countSquaresText(c), "0 false")
	}
}
