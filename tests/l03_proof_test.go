package tests

import (
	"fmt"
	"math"
	"math/bits"
	"sort"
	"testing"

	"loop.example/g01346/impl"
)

// This file goes on with the model of chapter 3, for cuts of all pairs, pairs
// and trees.

// modelCutTree does as the document tells, but finds least cuts among all sets
// of nodes: those that are reached by left over arcs are in all of them.
func modelCutTree(n impl.Net) string {
	both := impl.Net{Nodes: n.Nodes}
	for _, a := range n.Arcs {
		both.Arcs = append(both.Arcs, a, arc(a.To, a.From, a.Room, 0))
	}
	parents, weights := make([]int64, n.Nodes), make([]int64, n.Nodes)
	for i := range n.Nodes {
		if i == 0 {
			continue
		}
		room, nodes := leastCut(both, i, parents[i])
		weights[i] = room
		for _, k := range nodes {
			if k > i && parents[k] == parents[i] {
				parents[k] = i
			}
		}
	}
	return fmt.Sprint(parents, " ", weights, " true")
}

func fewArcs(n impl.Net) impl.Net {
	return netOf(n.Nodes, n.Arcs[:min(len(n.Arcs), 24)]...)
}

func TestCutTreesAreThoseOfTheModel(t *testing.T) {
	for _, n := range manyNets(240) {
		if n = fewArcs(n); n.Nodes <= 10 {
			wantText(t, fmt.Sprint("CutTree of ", n), cutTreeText(n), modelCutTree(n))
		}
	}
}

// TestCutTreesTellTheCutsOfAllPairs wants the least weight on the way between
// two nodes to be the room of their least cut.
func TestCutTreesTellTheCutsOfAllPairs(t *testing.T) {
	for i, n := range manyNets(240) {
		n = fewArcs(n)
		parents, weights, ok := impl.CutTree(n)
		wantBool(t, fmt.Sprint("CutTree of ", n), ok, true)
		var both impl.Net
		both.Nodes = n.Nodes
		for _, a := range n.Arcs {
			both.Arcs = append(both.Arcs, a, arc(a.To, a.From, a.Room, 0))
		}
		for step := range 4 {
			from, to := someEnds(n, i+step*7)
			amount, _ := impl.PushFlow(both, from, to)
			if n.Nodes <= 8 {
				amount, _ = leastCut(both, from, to)
			}
			if told := leastBetween(parents, weights, from, to); told != amount {
				t.Errorf("CutTree of %v: %d between %d and %d, want %d", n, told, from, to, amount)
			}
		}
	}
}

// leastBetween returns the least weight on the way between two nodes: that of
// all weights which part them.
func leastBetween(parents, weights []int64, from, to int64) int64 {
	least := int64(math.MaxInt64)
	for node := 1; node < len(parents); node++ {
		if isAbove(parents, int64(node), from) != isAbove(parents, int64(node), to) {
			least = min(least, weights[node])
		}
	}
	return least
}

func isAbove(parents []int64, node, below int64) bool {
	for ; below != 0; below = parents[below] {
		if below == node {
			return true
		}
	}
	return false
}

// manyCosts returns costs of pairs: sides from 1 on, and of several ranges, so
// that there are many equal sums.
func manyCosts(count int) [][]int64 {
	state := sequence(7)
	var list [][]int64
	for i := range count {
		side := 1 + i%16
		spread := []int{2, 3, 10, 100, 2000001}[i/16%5]
		var costs []int64
		for range side * side {
			costs = append(costs, int64(state.below(spread)-spread/2))
		}
		list = append(list, costs)
	}
	return list
}

func sideOf(costs []int64) int64 { return int64(math.Sqrt(float64(len(costs)))) }

// modelPairs looks at all lists of columns, the first ones first.
func modelPairs(side int64, costs []int64) ([]int64, int64) {
	var best []int64
	least := int64(math.MaxInt64)
	var choose func(list []int64, sum int64)
	choose = func(list []int64, sum int64) {
		row := int64(len(list))
		if row == side && sum < least {
			best, least = append([]int64(nil), list...), sum
		}
		for k := int64(0); k < side && row < side; k++ {
			if !contains(list, k) {
				choose(append(list[:row:row], k), sum+costs[row*side+k])
			}
		}
	}
	choose(nil, 0)
	return best, least
}

func contains(list []int64, x int64) bool {
	for _, y := range list {
		if x == y {
			return true
		}
	}
	return false
}

func TestBestPairsAreTheFirstOfAll(t *testing.T) {
	for _, costs := range manyCosts(400) {
		side := sideOf(costs)
		if side > 6 {
			continue
		}
		columns, cost, _, _, ok := impl.BestPairs(side, costs)
		want, least := modelPairs(side, costs)
		wantText(t, fmt.Sprint("BestPairs of ", costs), fmt.Sprint(columns, cost, ok), fmt.Sprint(want, least, true))
	}
}

// TestBestPairsAreProvedByTheirPrices is about promise 4: no list of pairs costs
// less than the sum of all prices, and this one costs just that.
func TestBestPairsAreProvedByTheirPrices(t *testing.T) {
	for _, costs := range manyCosts(400) {
		side := sideOf(costs)
		what := fmt.Sprint("BestPairs of ", costs)
		columns, cost, ofRows, ofColumns, ok := impl.BestPairs(side, costs)
		wantBool(t, what, ok && len(columns) == int(side) && len(ofRows) == int(side) && len(ofColumns) == int(side), true)
		sum, prices := int64(0), int64(0)
		for row, k := range columns {
			sum += costs[int64(row)*side+k]
			prices += ofRows[row] + ofColumns[row]
			wantBool(t, what+" has a column twice", contains(columns[:row], k), false)
			for j := range ofColumns {
				left := costs[row*int(side)+j] - ofRows[row] - ofColumns[j]
				wantBool(t, what+" has prices above a cost", left < 0, false)
				wantBool(t, what+" has other prices for a pair", int64(j) == k && left != 0, false)
			}
		}
		wantText(t, what, fmt.Sprint(sum, prices), fmt.Sprint(cost, cost))
		wantText(t, what, fmt.Sprint(ofColumns), fmt.Sprint(modelPrices(int(side), costs, columns)))
		wantText(t, what, fmt.Sprint(columns), fmt.Sprint(firstTight(int(side), costs, ofRows, ofColumns)))
	}
}

func modelPrices(side int, costs, columns []int64) []int64 {
	longs := make([]int64, side)
	for range side {
		for k := range side {
			for j := range side {
				for i := range side {
					if int(columns[i]) == j && longs[j]+costs[i*side+k]-costs[i*side+j] < longs[k] {
						longs[k] = longs[j] + costs[i*side+k] - costs[i*side+j]
					}
				}
			}
		}
	}
	return longs
}

// firstTight returns the first list of columns of pairs whose cost is the sum of
// both prices: it takes the first column that leaves one for each other row.
func firstTight(side int, costs, ofRows, ofColumns []int64) []int64 {
	tight := make([]uint, side)
	for i := range side {
		for k := range side {
			if costs[i*side+k] == ofRows[i]+ofColumns[k] {
				tight[i] |= 1 << k
			}
		}
	}
	var list []int64
	used := uint(0)
	for i := range side {
		for k := range side {
			if tight[i]>>k&1 == 1 && used>>k&1 == 0 && countTight(tight[i+1:], used|1<<k) == side-i-1 {
				list, used = append(list, int64(k)), used|1<<k
				break
			}
		}
	}
	return list
}

// countTight returns how many rows can have columns of their own that are not used.
func countTight(tight []uint, used uint) int {
	owner := map[int]int{}
	count := 0
	for i := range tight {
		looked := used
		var find func(i int) bool
		find = func(i int) bool {
			for open := tight[i] &^ looked; open != 0; open = tight[i] &^ looked {
				k := bits.TrailingZeros(open)
				looked |= 1 << k
				if other, taken := owner[k]; !taken || find(other) {
					owner[k] = i
					return true
				}
			}
			return false
		}
		if find(i) {
			count++
		}
	}
	return count
}

// somePairs are pairs of left and right things.
type somePairs struct {
	left, right int64
	list        []int64
}

func manyPairs(count int) []somePairs {
	state := sequence(8)
	var all []somePairs
	for i := range count {
		p := somePairs{int64(1 + state.below(16)), int64(1 + state.below(16)), nil}
		if i%2 == 0 {
			p.left, p.right = int64(1+state.below(5)), int64(1+state.below(5))
		}
		for range state.below(49) / (1 + i%4) {
			p.list = append(p.list, int64(state.below(int(p.left))), int64(state.below(int(p.right))))
		}
		all = append(all, p)
	}
	return all
}

func modelMatch(p somePairs) map[int64]int64 {
	leftOf := map[int64]int64{}
	for first := range p.left {
		looked := map[int64]bool{}
		var look func(left int64) bool
		look = func(left int64) bool {
			for k := range len(p.list) / 2 {
				right := p.list[2*k+1]
				if p.list[2*k] == left && !looked[right] {
					looked[right] = true
					other, taken := leftOf[right]
					if !taken || look(other) {
						leftOf[right] = left
						return true
					}
				}
			}
			return false
		}
		look(first)
	}
	return leftOf
}

// mostOfSides looks at all choices of right things for left ones.
func mostOfSides(p somePairs, left int64, taken uint) int {
	if left == p.left {
		return 0
	}
	most := mostOfSides(p, left+1, taken)
	seen := taken
	for k := 0; k < len(p.list); k += 2 {
		if right := p.list[k+1]; p.list[k] == left && seen>>right&1 == 0 {
			seen |= 1 << right
			most = max(most, 1+mostOfSides(p, left+1, taken|1<<right))
		}
	}
	return most
}

func TestSidesAreThoseOfTheModel(t *testing.T) {
	for _, p := range manyPairs(400) {
		leftOf := modelMatch(p)
		want := repeat(int(p.left), int64(-1))
		for right, left := range leftOf {
			want[left] = right
		}
		wantText(t, fmt.Sprint("MatchSides of ", p), matchText(p.left, p.right, p.list), fmt.Sprint(want, " true"))
		lefts, rights := map[int64]bool{}, map[int64]bool{}
		for left, right := range want {
			lefts[int64(left)] = right < 0
		}
		for range 16 { // so often that nothing more is reached
			for k := 0; k < len(p.list); k += 2 {
				if lefts[p.list[k]] {
					rights[p.list[k+1]] = true
					lefts[leftOf[p.list[k+1]]] = true
				}
			}
		}
		var fewLefts, fewRights []int64
		for i := range p.left {
			if !lefts[i] {
				fewLefts = append(fewLefts, i)
			}
		}
		for i := range p.right {
			if rights[i] {
				fewRights = append(fewRights, i)
			}
		}
		wantText(t, fmt.Sprint("CoverSides of ", p), coverText(p.left, p.right, p.list), fmt.Sprint(fewLefts, " ", fewRights, " true"))
	}
}

// TestSidesAreProvedByTheirCovers wants a cover of all pairs with as many things
// as there are pairs that have one another, so that there can be no more.
func TestSidesAreProvedByTheirCovers(t *testing.T) {
	for _, p := range manyPairs(400) {
		what := fmt.Sprint("pairs ", p)
		match, one := impl.MatchSides(p.left, p.right, p.list)
		lefts, rights, two := impl.CoverSides(p.left, p.right, p.list)
		wantBool(t, what, one && two && len(match) == int(p.left), true)
		count := 0
		for left, right := range match {
			if right >= 0 {
				count++
				wantBool(t, what+" have a right thing twice", contains(match[:left], right), false)
			}
		}
		if count != len(lefts)+len(rights) {
			t.Errorf("%s: %d have one another, but the cover has %d and %d", what, count, len(lefts), len(rights))
		}
		for k := 0; k < len(p.list); k += 2 {
			wantBool(t, what+" are covered", contains(lefts, p.list[k]) || contains(rights, p.list[k+1]), true)
		}
		if p.left <= 5 && p.right <= 5 {
			wantText(t, what, fmt.Sprint(count), fmt.Sprint(mostOfSides(p, 0, 0)))
		}
	}
}

// modelMatchAll looks at all lists of others, the first ones first.
func modelMatchAll(n impl.Net) []int64 {
	joined := map[[2]int64]bool{}
	for _, a := range n.Arcs {
		joined[[2]int64{a.From, a.To}], joined[[2]int64{a.To, a.From}] = true, true
	}
	var best []int64
	most := -1
	others := repeat(int(n.Nodes), int64(-2)) // -2 for nodes that were not looked at
	var choose func(node int64, count int)
	choose = func(node int64, count int) {
		for node < n.Nodes && others[node] != -2 {
			node++
		}
		if node == n.Nodes {
			if count > most {
				best, most = append([]int64(nil), others...), count
			}
			return
		}
		for other := node + 1; other < n.Nodes; other++ {
			if others[other] == -2 && joined[[2]int64{node, other}] {
				others[node], others[other] = other, node
				choose(node+1, count+1)
				others[other] = -2
			}
		}
		others[node] = -1
		choose(node+1, count)
		others[node] = -2
	}
	choose(0, 0)
	return best
}

func TestMatchAllIsThatOfTheModel(t *testing.T) {
	for i, n := range manyNets(480) {
		if n.Nodes > 12 {
			n = joinedNet(12)
		}
		if i%3 == 0 {
			n.Arcs = n.Arcs[:min(len(n.Arcs), 9)]
		}
		match, ok := impl.MatchAll(n)
		wantText(t, fmt.Sprint("MatchAll of ", n), fmt.Sprint(match, ok), fmt.Sprint(modelMatchAll(n), true))
	}
}

// isTree reports whether arcs join all nodes to a tree.
func isTree(n impl.Net, arcs []int64) bool {
	joined := map[int64]bool{0: true}
	for range arcs {
		for _, i := range arcs {
			if a := n.Arcs[i]; joined[a.From] || joined[a.To] {
				joined[a.From], joined[a.To] = true, true
			}
		}
	}
	return len(arcs) == int(n.Nodes)-1 && len(joined) == int(n.Nodes)
}

// allTrees looks at all sets of arcs, and returns how many are trees, and the
// least sum of costs of one of them.
func allTrees(n impl.Net) (int64, int64) {
	count, least := int64(0), int64(math.MaxInt64)
	for set := range uint(1) << len(n.Arcs) {
		if bits.OnesCount(set) != int(n.Nodes)-1 {
			continue
		}
		var arcs []int64
		cost := int64(0)
		for i := range n.Arcs {
			if set>>i&1 == 1 {
				arcs = append(arcs, int64(i))
				cost += n.Arcs[i].Cost
			}
		}
		if isTree(n, arcs) {
			count++
			least = min(least, cost)
		}
	}
	return count, least
}

func TestTreesAreThoseOfTheModel(t *testing.T) {
	for _, n := range manyNets(480) {
		if n.Nodes > 8 {
			continue
		}
		count, ok := impl.TreesIn(n)
		wantText(t, fmt.Sprint("TreesIn of ", n), fmt.Sprint(count, ok), fmt.Sprint(modelTrees(n), true))
		if n.Arcs = n.Arcs[:min(len(n.Arcs), 10)]; n.Nodes > 6 {
			continue
		}
		trees, least := allTrees(n)
		count, ok = impl.TreesIn(n)
		wantText(t, fmt.Sprint("TreesIn of ", n), fmt.Sprint(count, ok), fmt.Sprint(trees, true))
		if trees == 0 {
			least = 0
		}
		_, cost, ok := impl.CheapTree(n)
		wantText(t, fmt.Sprint("CheapTree of ", n), fmt.Sprint(cost, ok), fmt.Sprint(least, trees > 0))
	}
}

// TestCheapTreesAreThoseOfTheModel takes arcs as the document tells.
func TestCheapTreesAreThoseOfTheModel(t *testing.T) {
	for _, n := range manyNets(480) {
		order := numbersTo(int64(len(n.Arcs)))
		sort.Slice(order, func(i, j int) bool {
			a, b := n.Arcs[order[i]].Cost, n.Arcs[order[j]].Cost
			return a < b || a == b && order[i] < order[j]
		})
		var tree []int64
		var taken []modelArc
		cost := int64(0)
		for _, i := range order {
			a := n.Arcs[i]
			if by, _ := modelReach(taken, a.From); by[a.To] != (modelArc{}) {
				continue
			}
			taken = append(taken, modelArc{a.From, a.To, 1, 0, 1, 1}, modelArc{a.To, a.From, 1, 0, 1, 1})
			tree, cost = append(tree, i), cost+a.Cost
		}
		want := fmt.Sprint(tree, cost, true)
		if len(tree) < int(n.Nodes)-1 {
			want = "[] 0 false"
		}
		got, sum, ok := impl.CheapTree(n)
		if !ok {
			wantText(t, fmt.Sprint("CheapTree of ", n), fmt.Sprint(got, " ", sum, " ", ok), want)
			continue
		}
		wantText(t, fmt.Sprint("CheapTree of ", n), fmt.Sprint(got, sum, ok), want)
	}
}

// modelRoot looks at all lists of arcs, the first ones first.
func modelRoot(n impl.Net, root int64) string {
	into := make([][]int64, n.Nodes)
	for i, a := range n.Arcs {
		into[a.To] = append(into[a.To], int64(i))
	}
	into[root] = []int64{-1}
	best, least := "[] 0 false", int64(math.MaxInt64)
	var choose func(list []int64, cost int64)
	choose = func(list []int64, cost int64) {
		node := int64(len(list))
		if node == n.Nodes {
			if cost < least && allComeFrom(n, list, root) {
				best, least = fmt.Sprint(list, " ", cost, " true"), cost
			}
			return
		}
		for _, i := range into[node] {
			if i < 0 {
				choose(append(list[:node:node], i), cost)
			} else {
				choose(append(list[:node:node], i), cost+n.Arcs[i].Cost)
			}
		}
	}
	choose(nil, 0)
	return best
}

func allComeFrom(n impl.Net, list []int64, root int64) bool {
	for node := range n.Nodes {
		at := node
		for range n.Nodes {
			if at != root {
				at = n.Arcs[list[at]].From
			}
		}
		if at != root {
			return false
		}
	}
	return true
}

func TestRootTreesAreThoseOfTheModel(t *testing.T) {
	for i, n := range manyNets(640) {
		if n.Nodes > 6 {
			continue
		}
		n.Arcs = n.Arcs[:min(len(n.Arcs), 18)]
		root := int64(i/8) % n.Nodes
		wantText(t, fmt.Sprint("RootTree of ", n, root), rootText(n, root), modelRoot(n, root))
	}
}
