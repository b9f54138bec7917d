package tests

import (
	"fmt"
	"math"
	"strings"
	"testing"

	"loop.example/g01346/impl"
)

// This file holds a second, separate computation of trees and of files of cases.

// modelTree is an index of a tree with all that is below it.
type modelTree struct {
	index, value int64
	greatest     bool // its worth is the greatest one of its children
	children     []*modelTree
}

func modelOfTree(t impl.Tree) *modelTree {
	all := []*modelTree{{0, t.Values[0], true, nil}}
	for i := 1; i < len(t.Parents); i++ {
		parent := all[t.Parents[i]]
		all = append(all, &modelTree{int64(i), t.Values[i], !parent.greatest, nil})
		parent.children = append(parent.children, all[i])
	}
	return all[0]
}

// worth returns the worth of an index, and the way from it to an end.
func (m *modelTree) worth() (int64, []int64) {
	best, way := m.value, []int64(nil)
	for i, child := range m.children {
		worth, below := child.worth()
		if i == 0 || m.greatest && worth > best || !m.greatest && worth < best {
			best, way = worth, below
		}
	}
	return best, append([]int64{m.index}, way...)
}

func (m *modelTree) leaves() []int64 {
	if len(m.children) == 0 {
		return []int64{m.index}
	}
	var list []int64
	for _, child := range m.children {
		list = append(list, child.leaves()...)
	}
	return list
}

// looks returns how many ends are looked at, told without a walk that stops: an
// end is, just if the greatest worth of all that come before something on the way
// to it, under one parent whose worth is the greatest one, is less than the least
// worth of all that do so under others.
func (m *modelTree) looks(low, high int64) int64 {
	if len(m.children) == 0 {
		if low < high {
			return 1
		}
		return 0
	}
	count := int64(0)
	for _, child := range m.children {
		count += child.looks(low, high)
		worth, _ := child.worth()
		if m.greatest {
			low = max(low, worth)
		} else {
			high = min(high, worth)
		}
	}
	return count
}

// manyTrees returns trees of all sizes and of several kinds: long and short ones,
// with values many of which are equal, or few.
func manyTrees(count int) []impl.Tree {
	state := sequence(63)
	var list []impl.Tree
	for i := range count {
		size := 1 + i%64
		if i%3 == 0 {
			size = 1 + i%13
		}
		var t impl.Tree
		for k := range size {
			parent := k - 1
			if k > 0 {
				switch i / 64 % 5 {
				case 0:
					parent = state.below(k)
				case 1:
					parent = max(0, k-1-state.below(4))
				case 2:
					parent = (k - 1) / 2
				case 3:
					parent = (k - 1) / 3
				case 4:
					parent = min(state.below(k), state.below(k))
				}
			}
			value := state.below([]int{2, 4, 20, 2000001}[i%4])
			if i%4 == 3 {
				value -= 1000000
			}
			t.Parents, t.Values = append(t.Parents, int64(parent)), append(t.Values, int64(value))
		}
		list = append(list, t)
	}
	return list
}

// sortedText tells integers in ascending order.
func sortedText(list []int64) string {
	set := map[int64]bool{}
	for _, n := range list {
		set[n] = true
	}
	var sorted []int64
	for n := int64(0); len(sorted) < len(list) && n < 64; n++ {
		if set[n] {
			sorted = append(sorted, n)
		}
	}
	return fmt.Sprint(sorted)
}

func TestWorthsAreThoseOfTheModel(t *testing.T) {
	for _, tree := range manyTrees(2000) {
		m := modelOfTree(tree)
		worth, way := m.worth()
		wantText(t, fmt.Sprint("BestOfTree ", tree), bestOfTreeText(tree), fmt.Sprint(worth, " ", way, " true"))
		wantText(t, fmt.Sprint("LooksOf ", tree), looksText(tree), fmt.Sprint(worth, " ", m.looks(math.MinInt64, math.MaxInt64), " true"))
		wantText(t, fmt.Sprint("LeavesOf ", tree), leavesText(tree), sortedText(m.leaves())+" true")
	}
}

// modelBytes returns the bytes of a case.
func modelBytes(c impl.Case) string {
	var b strings.Builder
	number := func(n int64) {
		if n < 0 {
			n += 256
		}
		b.Write([]byte{byte(n)})
	}
	b.WriteString("CAS1")
	number(int64(len(c.Name)))
	b.WriteString(c.Name)
	number(c.Form.Letters)
	number(int64(len(c.Form.Clauses)))
	number(int64(len(c.Proof)))
	for _, list := range [][][]int64{c.Form.Clauses, c.Proof} {
		for _, clause := range list {
			number(int64(len(clause)))
			for _, literal := range clause {
				number(literal)
			}
		}
	}
	return sealed(b.String())
}

// manyCases returns cases with names of all lengths, and with proofs that are
// some, are none, or are clauses of any kind.
func manyCases(count int) []impl.Case {
	state := sequence(64)
	var list []impl.Case
	for i, f := range manyForms(count) {
		name := ""
		for range 1 + i%8 {
			name += string(rune('a' + state.below(26)))
		}
		c := impl.Case{Name: name, Form: f}
		if proof, ok := impl.ProveNo(f); ok {
			c.Proof = proof
		} else {
			for range state.below([]int{3, 9, 129}[i%3]) {
				c.Proof = append(c.Proof, someClause(&state, int(f.Letters), 0, 10))
			}
		}
		list = append(list, c)
	}
	return list
}

func TestCasesAreStoredAsTheModelStoresThem(t *testing.T) {
	for _, c := range append(manyCases(400), rightCases()...) {
		bytes := modelBytes(c)
		wantText(t, fmt.Sprint("StoreCase ", c), storeText(c), fmt.Sprintf("%q true", bytes))
		wantText(t, fmt.Sprintf("LoadCase %q", bytes), loadText(bytes), fmt.Sprint(c, " true"))
	}
}

// TestFilesOfCasesAreRecovered puts some cases one behind another, with something
// behind them that is no case.
func TestFilesOfCasesAreRecovered(t *testing.T) {
	state := sequence(65)
	all := manyCases(200)
	for i := range 300 {
		first := state.below(len(all) - 12)
		list := all[first : first+state.below(12)]
		bytes, ends := "", []int{0}
		for _, c := range list {
			bytes += modelBytes(c)
			ends = append(ends, len(bytes))
		}
		most := min(len(list), 8)
		wantText(t, fmt.Sprint("StoreCases ", list[:most]), storeAllText(list[:most]), fmt.Sprintf("%q true", bytes[:ends[most]]))
		behind := []string{"", "x", modelBytes(all[i%len(all)])[:5], sealed("CAS1")}[i%4]
		wantText(t, fmt.Sprint("RecoverCases of ", list), recoverText(bytes+behind), fmt.Sprint(list[:most], ends[most], " true"))
	}
}
