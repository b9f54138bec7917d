package tests

import (
	"fmt"
	"math"
	"testing"

	"loop.example/g01346/impl"
)

// treeOf returns a tree of pairs of a parent and a value.
func treeOf(pairs ...int64) impl.Tree {
	var t impl.Tree
	for ; len(pairs) > 0; pairs = pairs[2:] {
		t.Parents, t.Values = append(t.Parents, pairs[0]), append(t.Values, pairs[1])
	}
	return t
}

// evenTree returns the tree with some parents, whose values are all equal.
func evenTree(value int64, parents ...int64) impl.Tree {
	return impl.Tree{Parents: parents, Values: repeat(len(parents), value)}
}

// chain returns a tree of n indices, each the only child of the one before, with
// their indices as values.
func chain(n int64) impl.Tree {
	var t impl.Tree
	for i := range n {
		t.Parents, t.Values = append(t.Parents, i-1), append(t.Values, i)
	}
	return t
}

// broom returns a tree in which 0 is the parent of all, with their indices as
// values.
func broom(n int64) impl.Tree {
	t := chain(n)
	for i := 1; i < int(n); i++ {
		t.Parents[i] = 0
	}
	return t
}

// stageTree is that of the stage's example.
func stageTree() impl.Tree {
	return impl.Tree{Parents: ints(-1, 0, 0, 1, 1, 2, 2), Values: ints(0, 0, 0, 3, 5, 2, 9)}
}

func copyTree(t impl.Tree) impl.Tree {
	return impl.Tree{Parents: append([]int64{}, t.Parents...), Values: append([]int64{}, t.Values...)}
}

func rightTrees() []impl.Tree {
	return []impl.Tree{
		treeOf(-1, 0), treeOf(-1, -1000000), treeOf(-1, 1000000), treeOf(-1, 1, 0, 2), stageTree(), chain(2), chain(63), chain(64), broom(64), evenTree(1000000, broom(64).Parents...), evenTree(-1000000, chain(64).Parents...),
		treeOf(-1, 0, 0, 1, 1, 2, 0, 3, 2, 4, 3, 5, 5, -6),
	}
}

func wrongTrees() []impl.Tree {
	list := []impl.Tree{
		{}, {Parents: ints(-1)}, {Values: ints(0)}, {Parents: ints(-1), Values: ints(0, 0)}, {Parents: ints(-1, 0), Values: ints(0)}, {Parents: ints(-1, 0, 0), Values: ints(0, 1)},
		chain(65), broom(65), chain(5000), treeOf(0, 0), treeOf(-2, 0), treeOf(1, 0), treeOf(-1, 0, -1, 0), treeOf(-1, 0, 1, 0), treeOf(-1, 0, 2, 0), treeOf(-1, 0, 0, 0, 2, 0), treeOf(-1, 0, 2, 0, 0, 0), treeOf(-1, 0, 0, 0, -1, 0),
		treeOf(0, 0, 0, 0), treeOf(-1, 1000001), treeOf(-1, -1000001), treeOf(-1, 0, 0, 1000001), treeOf(-1, -1000001, 0, 0), treeOf(-1, 1000001, 0, 0, 1, 0),
	}
	for _, n := range []int64{math.MaxInt64, math.MinInt64, 1 << 32, 1<<32 - 1, -1 << 32} {
		list = append(list, treeOf(n, 0), treeOf(-1, n), treeOf(-1, 0, n, 0), treeOf(-1, 0, 0, n))
	}
	return list
}

func TestValidTree(t *testing.T) {
	for _, tree := range rightTrees() {
		wantBool(t, fmt.Sprint("ValidTree ", tree), impl.ValidTree(tree), true)
	}
	for _, tree := range wrongTrees() {
		wantBool(t, fmt.Sprintf("ValidTree %.99s", fmt.Sprint(tree)), impl.ValidTree(tree), false)
	}
}

func TestSameTree(t *testing.T) {
	for _, tree := range append(rightTrees(), wrongTrees()...) {
		wantBool(t, fmt.Sprintf("SameTree %.99s", fmt.Sprint(tree)), impl.SameTree(tree, copyTree(tree)), true)
		for i := range min(len(tree.Parents), 70) {
			other := copyTree(tree)
			other.Parents[i] ^= 1
			wantBool(t, "SameTree with another parent", impl.SameTree(tree, other), false)
			wantBool(t, "SameTree, but one less", impl.SameTree(impl.Tree{Parents: tree.Parents[:i], Values: tree.Values}, tree), false)
		}
		for i := range min(len(tree.Values), 70) {
			other := copyTree(tree)
			other.Values[i]++
			wantBool(t, "SameTree with another value", impl.SameTree(other, tree), false)
			wantBool(t, "SameTree, but one less", impl.SameTree(tree, impl.Tree{Parents: tree.Parents, Values: tree.Values[:i]}), false)
		}
	}
	wantBool(t, "SameTree, nil and empty", impl.SameTree(impl.Tree{}, impl.Tree{Parents: ints(), Values: []int64{}}), true)
	wantBool(t, "SameTree, parents and values exchanged", impl.SameTree(treeOf(-1, 0), treeOf(0, -1)), false)
}

func bestOfTreeText(t impl.Tree) string {
	worth, way, ok := impl.BestOfTree(t)
	return fmt.Sprint(worth, " ", way, " ", ok)
}

func looksText(t impl.Tree) string {
	worth, looks, ok := impl.LooksOf(t)
	return fmt.Sprint(worth, " ", looks, " ", ok)
}

func leavesText(t impl.Tree) string { return listText(impl.LeavesOf(t)) }

func TestTrees(t *testing.T) {
	for _, c := range []struct {
		what                string
		tree                impl.Tree
		best, looks, leaves string
	}{
		{"one index", treeOf(-1, 7), "7 [0] true", "7 1 true", "[0] true"},
		{"the stage's example", stageTree(), "3 [0 1 3] true", "3 3 true", "[3 4 5 6] true"},
		{"one child", treeOf(-1, 7, 0, -3), "-3 [0 1] true", "-3 1 true", "[1] true"},
		{"the greatest child", treeOf(-1, 9, 0, 3, 0, 5, 0, 4), "5 [0 2] true", "5 3 true", "[1 2 3] true"},
		{"the first one of equal children", treeOf(-1, 9, 0, 3, 0, 5, 0, 5), "5 [0 2] true", "5 3 true", "[1 2 3] true"},
		{"the least child below", treeOf(-1, 0, 0, 9, 1, 3, 1, 2, 1, 4), "2 [0 1 3] true", "2 3 true", "[2 3 4] true"},
		{"the first one of equal children below", treeOf(-1, 0, 0, 9, 1, 3, 1, 2, 1, 2), "2 [0 1 3] true", "2 3 true", "[2 3 4] true"},
		{"the greatest child again two steps below", treeOf(-1, 0, 0, 0, 1, 0, 2, 4, 2, 6, 2, 5), "6 [0 1 2 4] true", "6 3 true", "[3 4 5] true"},
		{"values of indices with children do not count", treeOf(-1, 1000000, 0, -1000000, 1, 1000000, 2, 1), "1 [0 1 2 3] true", "1 1 true", "[3] true"},
		{"an equal worth ends a look", treeOf(-1, 0, 0, 0, 0, 0, 1, 3, 2, 3, 2, 1), "3 [0 1 3] true", "3 2 true", "[3 4 5] true"},
		{"a greater worth does not", treeOf(-1, 0, 0, 0, 0, 0, 1, 3, 2, 4, 2, 1), "3 [0 1 3] true", "3 3 true", "[3 4 5] true"},
		{"a look that ends two steps below", treeOf(-1, 0, 0, 0, 1, 0, 1, 0, 2, 3, 3, 5, 3, 1), "3 [0 1 2 4] true", "3 2 true", "[4 5 6] true"},
		{"an equal worth ends it, too", treeOf(-1, 0, 0, 0, 1, 0, 1, 0, 2, 3, 3, 3, 3, 1), "3 [0 1 2 4] true", "3 2 true", "[4 5 6] true"},
		{"a less one does not", treeOf(-1, 0, 0, 0, 1, 0, 1, 0, 2, 3, 3, 2, 3, 1), "2 [0 1 3 5] true", "2 3 true", "[4 5 6] true"},
		{"low from two steps above ends a look", treeOf(-1, 0, 0, 5, 0, 0, 2, 0, 3, 0, 4, 4, 4, 9), "5 [0 1] true", "5 2 true", "[1 5 6] true"},
		{"children are told between others", treeOf(-1, 0, 0, 1, 1, 2, 0, 3, 1, 1, 3, 7), "7 [0 3 5] true", "7 3 true", "[2 4 5] true"},
		{"an end beside a child with children", treeOf(-1, 0, 0, 4, 0, 0, 2, 9), "9 [0 2 3] true", "9 2 true", "[1 3] true"},
		{"all equal", evenTree(0, -1, 0, 0, 1, 1, 2, 2), "0 [0 1 3] true", "0 3 true", "[3 4 5 6] true"},
		{"all equal and of the least worth", evenTree(-1000000, -1, 0, 0, 1, 1, 2, 2), "-1000000 [0 1 3] true", "-1000000 3 true", "[3 4 5 6] true"},
		{"all equal and of the greatest worth", evenTree(1000000, -1, 0, 0, 1, 1, 2, 2), "1000000 [0 1 3] true", "1000000 3 true", "[3 4 5 6] true"},
		{"two of a long way", chain(2), "1 [0 1] true", "1 1 true", "[1] true"},
		{"the longest way", chain(64), fmt.Sprint("63 ", numbersTo(64), " true"), "63 1 true", "[63] true"},
		{"most children", broom(64), "63 [0 63] true", "63 63 true", fmt.Sprint(numbersTo(64)[1:], " true")},
		{"least worths of most children", evenTree(-1000000, broom(64).Parents...), "-1000000 [0 1] true", "-1000000 63 true", fmt.Sprint(numbersTo(64)[1:], " true")},
	} {
		wantText(t, "BestOfTree, "+c.what, bestOfTreeText(c.tree), c.best)
		wantText(t, "LooksOf, "+c.what, looksText(c.tree), c.looks)
		wantText(t, "LeavesOf, "+c.what, leavesText(c.tree), c.leaves)
	}
	for _, tree := range wrongTrees() {
		what := fmt.Sprintf(" of %.99s", fmt.Sprint(tree))
		wantText(t, "BestOfTree"+what, bestOfTreeText(tree), "0 [] false")
		wantText(t, "LooksOf"+what, looksText(tree), "0 0 false")
		wantText(t, "LeavesOf"+what, leavesText(tree), "[] false")
	}
}
