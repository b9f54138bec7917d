package tests

import (
	"fmt"
	"math"
	"testing"

	"loop.example/g01346/impl"
)

func pairsText(side int64, costs []int64) string {
	columns, cost, ofRows, ofColumns, ok := impl.BestPairs(side, costs)
	return fmt.Sprint(columns, " ", cost, " ", ofRows, " ", ofColumns, " ", ok)
}

func numbersTo(n int64) []int64 {
	var list []int64
	for i := range n {
		list = append(list, i)
	}
	return list
}

func TestBestPairs(t *testing.T) {
	none := make([]int64, 16)
	var slanting []int64 // all pairs cost 1000000 but those of the columns 15, 0, 1 and so on
	shifted := []int64{15}
	for row := range int64(16) {
		for k := range int64(16) {
			cost := int64(1000000)
			if (k+1)%16 == row {
				cost = -1000000
			}
			slanting = append(slanting, cost)
		}
		if row < 15 {
			shifted = append(shifted, row)
		}
	}
	for _, c := range []struct {
		what  string
		side  int64
		costs []int64
		want  string
	}{
		{"the document's example", 2, []int64{1, 2, 2, 4}, "[1 0] 4 [2 3] [-1 0] true"},
		{"one pair", 1, []int64{7}, "[0] 7 [7] [0] true"},
		{"the least cost", 1, []int64{-1000000}, "[0] -1000000 [-1000000] [0] true"},
		{"the greatest cost", 1, []int64{1000000}, "[0] 1000000 [1000000] [0] true"},
		{"equal ones: the first list", 3, []int64{5, 5, 5, 5, 5, 5, 5, 5, 5}, "[0 1 2] 15 [5 5 5] [0 0 0] true"},
		{"equal ones: the first list without the first column", 3, []int64{5, 3, 3, 1, 1, 1, 1, 1, 1}, "[1 0 2] 5 [3 1 1] [0 0 0] true"},
		{"equal ones: a later column last", 3, []int64{1, 1, 9, 1, 9, 1, 9, 1, 1}, "[0 2 1] 3 [1 1 1] [0 0 0] true"},
		{"not the least cost of each row", 3, []int64{1, 2, 9, 1, 9, 9, 2, 3, 4}, "[1 0 2] 7 [3 3 4] [-2 -1 0] true"},
		{"most rows, equal costs", 16, make([]int64, 256), fmt.Sprint(numbersTo(16), " 0 ", none, " ", none, " true")},
		{"most rows, one way", 16, slanting, fmt.Sprint(shifted, " -16000000 ", repeat(16, int64(-1000000)), " ", none, " true")},
		{"no rows", 0, nil, "[] 0 [] [] false"},
		{"fewer than no rows", -1, []int64{1}, "[] 0 [] [] false"},
		{"one row beyond most", 17, make([]int64, 289), "[] 0 [] [] false"},
		{"many rows", math.MaxInt64, []int64{1}, "[] 0 [] [] false"},
		{"many rows", 1 << 32, nil, "[] 0 [] [] false"},
		{"fewer costs", 2, []int64{1, 2, 3}, "[] 0 [] [] false"},
		{"more costs", 2, []int64{1, 2, 3, 4, 5}, "[] 0 [] [] false"},
		{"no costs", 1, nil, "[] 0 [] [] false"},
		{"a cost that is too great", 2, []int64{1, 2, 2, 1000001}, "[] 0 [] [] false"},
		{"a cost that is too small", 2, []int64{-1000001, 2, 2, 4}, "[] 0 [] [] false"},
		{"a cost far beyond", 2, []int64{1, math.MinInt64, 2, 4}, "[] 0 [] [] false"},
	} {
		wantText(t, "BestPairs, "+c.what, pairsText(c.side, c.costs), c.want)
	}
}

func matchText(left, right int64, pairs []int64) string {
	match, ok := impl.MatchSides(left, right, pairs)
	return fmt.Sprint(match, " ", ok)
}

func coverText(left, right int64, pairs []int64) string {
	lefts, rights, ok := impl.CoverSides(left, right, pairs)
	return fmt.Sprint(lefts, " ", rights, " ", ok)
}

func TestMatchAndCoverSides(t *testing.T) {
	var equal []int64 // the pairs i, i for all 16, then i, i + 1, and then i, 15 - i
	for i := range int64(16) {
		equal = append(equal, i, i)
	}
	for i := range int64(16) {
		equal = append(equal, i, (i+1)%16)
	}
	for i := range int64(16) {
		equal = append(equal, i, 15-i)
	}
	none := repeat(16, int64(-1))
	for _, c := range []struct {
		what         string
		left, right  int64
		pairs        []int64
		match, cover string
	}{
		{"the given test's", 2, 2, []int64{0, 0, 1, 0}, "[0 -1] true", "[] [0] true"},
		{"no pairs", 2, 3, nil, "[-1 -1] true", "[] [] true"},
		{"no pairs, most things", 16, 16, []int64{}, fmt.Sprint(none, " true"), "[] [] true"},
		{"one of each", 1, 1, []int64{0, 0}, "[0] true", "[0] [] true"},
		{"the same pair twice", 1, 1, []int64{0, 0, 0, 0}, "[0] true", "[0] [] true"},
		{"the first pair, not the least right thing", 1, 3, []int64{0, 2, 0, 1}, "[2] true", "[0] [] true"},
		{"another one for the first left thing", 2, 2, []int64{0, 0, 0, 1, 1, 0}, "[1 0] true", "[0 1] [] true"},
		{"pairs of the second left thing first", 2, 2, []int64{1, 0, 0, 0, 0, 1}, "[1 0] true", "[0 1] [] true"},
		{"three make room", 3, 3, []int64{0, 0, 0, 1, 1, 1, 1, 2, 2, 0}, "[1 2 0] true", "[0 1 2] [] true"},
		{"a free one behind a taken one", 2, 2, []int64{0, 0, 1, 0, 1, 1}, "[0 1] true", "[0 1] [] true"},
		{"a taken one before a free one makes room", 2, 3, []int64{0, 0, 0, 2, 1, 0, 1, 1}, "[2 0] true", "[0 1] [] true"},
		{"one that is looked at in vain is not looked at again", 3, 2, []int64{0, 0, 1, 0, 2, 0, 1, 1, 2, 1}, "[0 1 -1] true", "[] [0 1] true"},
		{"a left thing in the cover, and a right one", 4, 3, []int64{0, 0, 0, 1, 0, 2, 1, 1, 2, 1, 3, 1}, "[0 1 -1 -1] true", "[0] [1] true"},
		{"the last things", 16, 16, []int64{15, 15}, fmt.Sprint(append(repeat(15, int64(-1)), 15), " true"), "[15] [] true"},
		{"most pairs", 16, 16, equal, fmt.Sprint(numbersTo(16), " true"), fmt.Sprint(numbersTo(16), " [] true")},
		{"one pair beyond most", 16, 16, append(equal[:96:96], 0, 0), "[] false", "[] [] false"},
		{"most pairs and a half", 16, 16, append(equal[:96:96], 0), "[] false", "[] [] false"},
		{"many pairs", 16, 16, make([]int64, 5000), "[] false", "[] [] false"},
		{"half a pair", 2, 2, []int64{0}, "[] false", "[] [] false"},
		{"half a pair behind one", 2, 2, []int64{0, 0, 1}, "[] false", "[] [] false"},
		{"no left things", 0, 2, nil, "[] false", "[] [] false"},
		{"no right things", 2, 0, nil, "[] false", "[] [] false"},
		{"fewer than none", -1, 2, nil, "[] false", "[] [] false"},
		{"fewer than none", 2, -1, nil, "[] false", "[] [] false"},
		{"one left thing beyond most", 17, 2, nil, "[] false", "[] [] false"},
		{"one right thing beyond most", 2, 17, nil, "[] false", "[] [] false"},
		{"many", math.MaxInt64, 2, nil, "[] false", "[] [] false"},
		{"many", 2, 1 << 32, nil, "[] false", "[] [] false"},
		{"a left thing beyond the end", 2, 3, []int64{2, 0}, "[] false", "[] [] false"},
		{"a right thing beyond the end", 3, 2, []int64{0, 2}, "[] false", "[] [] false"},
		{"a left thing before 0", 2, 2, []int64{0, 0, -1, 0}, "[] false", "[] [] false"},
		{"a right thing before 0", 2, 2, []int64{0, 0, 0, -1}, "[] false", "[] [] false"},
		{"a thing far away", 2, 2, []int64{1 << 32, 0}, "[] false", "[] [] false"},
	} {
		wantText(t, "MatchSides, "+c.what, matchText(c.left, c.right, c.pairs), c.match)
		wantText(t, "CoverSides, "+c.what, coverText(c.left, c.right, c.pairs), c.cover)
	}
}

// joinedNet has arcs without room that join the given pairs of nodes.
func joinedNet(nodes int64, pairs ...int64) impl.Net {
	n := impl.Net{Nodes: nodes}
	for k := 0; k < len(pairs); k += 2 {
		n.Arcs = append(n.Arcs, arc(pairs[k], pairs[k+1], 0, 0))
	}
	return n
}

// fullNet has arcs between all nodes.
func fullNet(nodes int64) impl.Net {
	n := impl.Net{Nodes: nodes}
	for to := range nodes {
		for from := range to {
			n.Arcs = append(n.Arcs, arc(from, to, 1, from))
		}
	}
	return n
}

func TestMatchAll(t *testing.T) {
	for _, c := range []struct {
		what string
		n    impl.Net
		want string
	}{
		{"the example", exampleNet(), "[1 0 -1] true"},
		{"no arcs", netOf(2), "[-1 -1] true"},
		{"no arcs, most nodes", netOf(12), fmt.Sprint(repeat(12, int64(-1)), " true")},
		{"no arcs, one node beyond most", netOf(13), "[] false"},
		{"no arcs, many nodes", netOf(16), "[] false"},
		{"one direction", joinedNet(2, 0, 1), "[1 0] true"},
		{"the other direction", joinedNet(2, 1, 0), "[1 0] true"},
		{"twice the same", joinedNet(3, 1, 0, 0, 1, 1, 0), "[1 0 -1] true"},
		{"a line", joinedNet(4, 2, 3, 1, 2, 0, 1), "[1 0 3 2] true"},
		{"more pairs rather than the first other", joinedNet(4, 0, 1, 0, 2, 1, 2, 0, 3), "[3 2 1 0] true"},
		{"the first other rather than none", joinedNet(4, 1, 2, 0, 2, 2, 3), "[2 -1 0 -1] true"},
		{"a later one stays alone", joinedNet(5, 1, 2, 2, 3, 3, 4, 1, 3), "[-1 2 1 4 3] true"},
		{"a round of five", joinedNet(5, 0, 1, 1, 2, 2, 3, 3, 4, 4, 0), "[1 0 3 2 -1] true"},
		{"a round of five and one more", joinedNet(6, 0, 1, 1, 2, 2, 3, 3, 4, 4, 0, 1, 5), "[4 5 3 2 0 1] true"},
		{"nodes far apart", joinedNet(12, 11, 0, 10, 1, 9, 2), "[11 10 9 -1 -1 -1 -1 -1 -1 2 1 0] true"},
		{"all of nine", fullNet(9), "[1 0 3 2 5 4 7 6 -1] true"},
		{"a line of most nodes from the end", joinedNet(12, 10, 11, 9, 10, 8, 9, 7, 8, 6, 7, 5, 6, 4, 5, 3, 4, 2, 3, 1, 2, 0, 1), "[1 0 3 2 5 4 7 6 9 8 11 10] true"},
	} {
		match, ok := impl.MatchAll(c.n)
		wantText(t, "MatchAll, "+c.what, fmt.Sprint(match, " ", ok), c.want)
	}
}

func TestCheapTree(t *testing.T) {
	for _, c := range []struct {
		what string
		n    impl.Net
		want string
	}{
		{"the example", exampleNet(), "[0 1] 3 true"},
		{"two nodes", netOf(2, arc(1, 0, 0, -1000)), "[0] -1000 true"},
		{"the cheapest of parallel arcs", netOf(2, arc(0, 1, 1, 5), arc(1, 0, 1, 3), arc(0, 1, 1, 3)), "[1] 3 true"},
		{"in the order in which they are taken", netOf(4, arc(0, 1, 1, 3), arc(1, 2, 1, 1), arc(2, 3, 1, 2)), "[1 2 0] 6 true"},
		{"equal costs", netOf(4, arc(3, 2, 1, 1), arc(2, 1, 1, 1), arc(3, 1, 1, 1), arc(1, 0, 1, 1)), "[0 1 3] 3 true"},
		{"groups are joined", netOf(4, arc(0, 1, 1, 1), arc(2, 3, 1, 1), arc(1, 3, 1, 2), arc(0, 2, 1, 2), arc(0, 3, 1, 2)), "[0 1 2] 4 true"},
		{"costs less than 0", netOf(3, arc(0, 1, 1, -1), arc(1, 2, 1, -2), arc(2, 0, 1, -3)), "[2 1] -5 true"},
		{"no arcs", netOf(2), "[] 0 false"},
		{"a node that is not joined", netOf(4, arc(0, 1, 1, 1), arc(1, 2, 1, 1), arc(2, 0, 1, 1)), "[] 0 false"},
		{"two groups", netOf(4, arc(0, 1, 1, 1), arc(2, 3, 1, 1)), "[] 0 false"},
		{"most nodes and arcs", ringNet(), "[0 1 2 3 4 5 6 7 8 9 10 11 12 13 14] 0 true"},
	} {
		tree, cost, ok := impl.CheapTree(c.n)
		wantText(t, "CheapTree, "+c.what, fmt.Sprint(tree, " ", cost, " ", ok), c.want)
	}
}

func TestTreesIn(t *testing.T) {
	most := fullNet(8)
	most.Arcs = append(most.Arcs, fullNet(8).Arcs[8:]...)
	for _, c := range []struct {
		what string
		n    impl.Net
		want string
	}{
		{"the document's example", joinedNet(3, 0, 1, 1, 2, 0, 2), "3 true"},
		{"whatever direction", joinedNet(3, 1, 0, 1, 2, 0, 2), "3 true"},
		{"two nodes", joinedNet(2, 0, 1), "1 true"},
		{"no arcs", netOf(2), "0 true"},
		{"no arcs, most nodes", netOf(8), "0 true"},
		{"no arcs, one node beyond most", netOf(9), "0 false"},
		{"a tree of one node beyond most", lineNet(repeat(8, int64(1))...), "0 false"},
		{"a tree", lineNet(repeat(7, int64(1))...), "1 true"},
		{"parallel arcs", joinedNet(3, 0, 1, 1, 0, 0, 1, 1, 2, 2, 1), "6 true"},
		{"two nodes, most arcs", netOf(2, repeatArc(48, arc(0, 1, 1, 1))...), "48 true"},
		{"a first node that is not joined", joinedNet(3, 1, 2, 2, 1), "0 true"},
		{"a last node that is not joined", joinedNet(3, 0, 1, 1, 0), "0 true"},
		{"a node between that is not joined", joinedNet(3, 0, 2, 2, 0), "0 true"},
		{"two rounds", joinedNet(6, 0, 1, 1, 2, 2, 0, 3, 4, 4, 5, 5, 3), "0 true"},
		{"a round of eight", joinedNet(8, 0, 1, 1, 2, 2, 3, 3, 4, 4, 5, 5, 6, 6, 7, 7, 0), "8 true"},
		{"all of four", fullNet(4), "16 true"},
		{"all of five", fullNet(5), "125 true"},
		{"all of eight", fullNet(8), "262144 true"},
		{"all of eight, some twice", most, fmt.Sprint(modelTrees(most), " true")},
	} {
		count, ok := impl.TreesIn(c.n)
		wantText(t, "TreesIn, "+c.what, fmt.Sprint(count, " ", ok), c.want)
	}
}

func rootText(n impl.Net, root int64) string {
	arcs, cost, ok := impl.RootTree(n, root)
	return fmt.Sprint(arcs, " ", cost, " ", ok)
}

func TestRootTree(t *testing.T) {
	round := netOf(4, arc(1, 2, 1, 1), arc(2, 3, 1, 1), arc(3, 1, 1, 1), arc(0, 1, 1, 10), arc(0, 2, 1, 9), arc(0, 3, 1, 10))
	for _, c := range []struct {
		what string
		n    impl.Net
		root int64
		want string
	}{
		{"the example", exampleNet(), 0, "[-1 0 1] 3 true"},
		{"no arcs lead away", exampleNet(), 2, "[] 0 false"},
		{"a node that is not reached", exampleNet(), 1, "[] 0 false"},
		{"no arcs", netOf(2), 0, "[] 0 false"},
		{"two nodes", netOf(2, arc(1, 0, 0, -5)), 1, "[0 -1] -5 true"},
		{"arcs to the root", netOf(2, arc(1, 0, 1, -9), arc(0, 1, 1, 5)), 0, "[-1 1] 5 true"},
		{"a round that must be broken", round, 0, "[-1 2 4 1] 11 true"},
		{"a round that nothing reaches", netOf(4, arc(0, 1, 1, 1), arc(2, 3, 1, 1), arc(3, 2, 1, 1)), 0, "[] 0 false"},
		{"equal costs: the first list", netOf(3, arc(0, 2, 1, 1), arc(2, 1, 1, 1), arc(0, 1, 1, 1), arc(1, 2, 1, 1)), 0, "[-1 1 0] 2 true"},
		{"equal costs: the first list from another root", netOf(3, arc(1, 0, 1, 1), arc(1, 2, 1, 1), arc(2, 0, 1, 1), arc(0, 2, 1, 1)), 1, "[0 -1 1] 2 true"},
		{"parallel arcs", netOf(2, arc(0, 1, 1, 5), arc(0, 1, 1, 3), arc(0, 1, 1, 3)), 0, "[-1 1] 3 true"},
		{"costs less than 0", netOf(3, arc(0, 1, 1, 1), arc(0, 2, 1, 1), arc(1, 2, 1, -1000), arc(2, 1, 1, -1000)), 0, "[-1 0 2] -999 true"},
		{"most nodes", lineNet(1, 1, 1, 1, 1), 0, "[-1 0 1 2 3 4] 5 true"},
		{"one beyond it", lineNet(1, 1, 1, 1, 1, 1), 0, "[] 0 false"},
		{"most nodes and arcs", mostTreesNet(), 5, "[9 19 29 38 47 -1] -48 true"},
		{"no node", exampleNet(), 3, "[] 0 false"},
		{"no node", exampleNet(), -1, "[] 0 false"},
		{"no node", exampleNet(), math.MinInt64, "[] 0 false"},
		{"no node", exampleNet(), 1 << 32, "[] 0 false"},
	} {
		wantText(t, "RootTree, "+c.what, rootText(c.n, c.root), c.want)
	}
}

// mostTreesNet has about as many trees away from its last node as can be, and
// each one behind another one costs less.
func mostTreesNet() impl.Net {
	n := impl.Net{Nodes: 6}
	for i, count := range []int64{10, 10, 10, 9, 9} {
		for k := range count {
			n.Arcs = append(n.Arcs, arc(5, int64(i), 1, -k-1))
		}
	}
	return n
}
