package tests

import (
	"fmt"
	"math"
	"testing"

	"loop.example/g01346/impl"
)

// lineNet has the arcs from each node to the next one, with the given rooms and
// the costs 1.
func lineNet(rooms ...int64) impl.Net {
	n := impl.Net{Nodes: int64(len(rooms)) + 1}
	for i, room := range rooms {
		n.Arcs = append(n.Arcs, arc(int64(i), int64(i)+1, room, 1))
	}
	return n
}

func longsText(n impl.Net, from int64) string {
	longs, ok := impl.LeastLongs(n, from)
	return fmt.Sprint(longs, " ", ok)
}

func TestLeastLongs(t *testing.T) {
	back := impl.Net{Nodes: 16}
	for node := int64(15); node >= 1; node-- {
		back.Arcs = append(back.Arcs, arc(node-1, node, 0, 1000))
	}
	farthest := make([]int64, 16)
	for node := range farthest {
		farthest[node] = int64(node) * 1000
	}
	for _, c := range []struct {
		what string
		n    impl.Net
		from int64
		want string
	}{
		{"the example", exampleNet(), 0, "[0 1 3] true"},
		{"from the last node", exampleNet(), 2, "[-1 -1 0] true"},
		{"from a node between", exampleNet(), 1, "[-1 0 2] true"},
		{"no arcs", netOf(2), 1, "[-1 0] true"},
		{"arcs without room", netOf(3, arc(0, 1, 0, 4), arc(1, 2, 0, 5)), 0, "[0 4 9] true"},
		{"costs of 0", netOf(3, arc(0, 1, 1, 0), arc(1, 0, 1, 0), arc(1, 2, 1, 0)), 0, "[0 0 0] true"},
		{"parallel arcs", netOf(2, arc(0, 1, 1, 9), arc(0, 1, 1, 3), arc(0, 1, 1, 5)), 0, "[0 3] true"},
		{"more arcs cost less", netOf(4, arc(0, 3, 1, 9), arc(0, 1, 1, 2), arc(1, 2, 1, 2), arc(2, 3, 1, 4)), 0, "[0 2 4 8] true"},
		{"the longest way, its last arc first", back, 0, fmt.Sprint(farthest, " true")},
		{"a round", netOf(3, arc(1, 2, 1, 1), arc(2, 0, 1, 1), arc(0, 1, 1, 1)), 1, "[2 0 1] true"},
		{"a cost of less than 0", netOf(3, arc(0, 1, 1, 5), arc(1, 2, 1, -1)), 0, "[] false"},
		{"a cost of less than 0 that is not reached", netOf(4, arc(0, 1, 1, 5), arc(2, 3, 0, -1)), 0, "[] false"},
		{"no node", exampleNet(), 3, "[] false"},
		{"no node", exampleNet(), -1, "[] false"},
		{"no node", exampleNet(), math.MaxInt64, "[] false"},
	} {
		wantText(t, "LeastLongs, "+c.what, longsText(c.n, c.from), c.want)
	}
}

func TestWideWay(t *testing.T) {
	for _, c := range []struct {
		what     string
		n        impl.Net
		from, to int64
		want     string
	}{
		{"the example", exampleNet(), 0, 2, "[0 1] 2 true"},
		{"one arc", exampleNet(), 0, 1, "[0] 3 true"},
		{"no way", exampleNet(), 2, 0, "[] 0 false"},
		{"no arcs", netOf(2), 0, 1, "[] 0 false"},
		{"an arc without room", netOf(3, arc(0, 1, 5, 0), arc(1, 2, 0, 0)), 0, 2, "[0 1] 0 true"},
		{"arcs without room, the first one", netOf(2, arc(0, 1, 0, 0), arc(0, 1, 0, 0)), 0, 1, "[0] 0 true"},
		{"the greatest room", netOf(2, arc(0, 1, 1000000, 0)), 0, 1, "[0] 1000000 true"},
		{"parallel arcs", netOf(2, arc(0, 1, 2, 0), arc(0, 1, 5, 0), arc(0, 1, 5, 0)), 0, 1, "[1] 5 true"},
		{"equal ways: the node that is settled first", netOf(4, arc(0, 2, 5, 0), arc(0, 1, 5, 0), arc(2, 3, 5, 0), arc(1, 3, 5, 0)), 0, 3, "[1 3] 5 true"},
		{"equal ways: the wider node first", netOf(4, arc(0, 2, 6, 0), arc(0, 1, 5, 0), arc(2, 3, 5, 0), arc(1, 3, 5, 0)), 0, 3, "[0 2] 5 true"},
		{"equal ways: not shorter ones", netOf(3, arc(0, 2, 5, 0), arc(0, 1, 9, 0), arc(1, 2, 5, 0)), 0, 2, "[0] 5 true"},
		{"a wider way later", netOf(3, arc(0, 2, 5, 0), arc(0, 1, 9, 0), arc(1, 2, 6, 0)), 0, 2, "[1 2] 6 true"},
		{"arcs back", netOf(3, arc(1, 0, 9, 0), arc(0, 1, 9, 0), arc(2, 1, 9, 0), arc(1, 2, 9, 0)), 0, 2, "[1 3] 9 true"},
		{"costs do not count", netOf(2, arc(0, 1, 1, -1000), arc(1, 0, 1, -1000)), 0, 1, "[0] 1 true"},
		{"all nodes", ringNet(), 0, 15, "[0 1 2 3 4 5 6 7 8 9 10 11 12 13 14] 999986 true"},
		{"around to the first node", ringNet(), 1, 0, "[1 2 3 4 5 6 7 8 9 10 11 12 13 14 15] 999985 true"},
		{"the same node", exampleNet(), 1, 1, "[] 0 false"},
		{"no node", exampleNet(), 0, 3, "[] 0 false"},
		{"no node", exampleNet(), 0, -1, "[] 0 false"},
		{"no node", exampleNet(), 3, 0, "[] 0 false"},
		{"no node", exampleNet(), -1, 0, "[] 0 false"},
	} {
		way, wide, ok := impl.WideWay(c.n, c.from, c.to)
		wantText(t, "WideWay, "+c.what, fmt.Sprint(way, " ", wide, " ", ok), c.want)
	}
}

func sharedText(n impl.Net, from int64, tos []int64, workers int64) string {
	amounts, ok := impl.FlowsShared(n, from, tos, workers)
	return fmt.Sprint(amounts, " ", ok)
}

func TestFlowsShared(t *testing.T) {
	line := lineNet(9, 8, 7, 6)
	for _, c := range []struct {
		what    string
		from    int64
		tos     []int64
		workers int64
		want    string
	}{
		{"in order", 0, []int64{1, 2, 3, 4}, 2, "[9 8 7 6] true"},
		{"in another order", 0, []int64{4, 1, 3, 2}, 3, "[6 9 7 8] true"},
		{"a node twice", 0, []int64{4, 4, 1, 4}, 1, "[6 6 9 6] true"},
		{"nodes that are not reached", 2, []int64{0, 3, 1}, 8, "[0 7 0] true"},
		{"no nodes", 0, nil, 1, "[] true"},
		{"no nodes, most workers", 0, []int64{}, 8, "[] true"},
		{"most nodes", 1, repeat(16, int64(4)), 8, fmt.Sprint(repeat(16, int64(6)), " true")},
		{"one beyond it", 1, repeat(17, int64(4)), 8, "[] false"},
		{"many", 1, repeat(5000, int64(4)), 8, "[] false"},
		{"no workers", 0, []int64{1}, 0, "[] false"},
		{"fewer than no workers", 0, []int64{1}, -1, "[] false"},
		{"one worker beyond most", 0, []int64{1}, 9, "[] false"},
		{"many workers", 0, []int64{1}, math.MaxInt64, "[] false"},
		{"many workers", 0, []int64{1}, 1<<32 + 1, "[] false"},
		{"no workers and no nodes", 0, nil, 0, "[] false"},
		{"the same node", 0, []int64{1, 0, 2}, 2, "[] false"},
		{"the same node at last", 4, []int64{1, 2, 4}, 2, "[] false"},
		{"no node", 0, []int64{1, 5}, 2, "[] false"},
		{"no node", 0, []int64{-1, 1}, 2, "[] false"},
		{"no node", 0, []int64{math.MinInt64, math.MaxInt64}, 2, "[] false"},
		{"from no node", 5, []int64{1}, 2, "[] false"},
		{"from no node", -1, []int64{1}, 2, "[] false"},
		{"from no node to none", -1, nil, 2, "[] false"},
		{"from no node to none", 5, nil, 2, "[] false"},
	} {
		wantText(t, "FlowsShared, "+c.what, sharedText(line, c.from, c.tos, c.workers), c.want)
	}
	wantText(t, "no arcs", sharedText(netOf(3), 1, []int64{0, 2}, 2), "[0 0] true")
	wantText(t, "an invalid net and no nodes", sharedText(netOf(17), 1, nil, 2), "[] false")
}

// TestAnyNumberOfWorkersFindsTheSame wants the amounts of GreatFlow from any
// number of workers, again and again.
func TestAnyNumberOfWorkersFindsTheSame(t *testing.T) {
	for i, n := range manyNets(40) {
		from := int64(i) % n.Nodes
		var tos, want []int64
		for k := range int64(16) {
			to := (from + 1 + k%(n.Nodes-1)) % n.Nodes
			_, amount, _ := impl.GreatFlow(n, from, to)
			tos, want = append(tos, to), append(want, amount)
		}
		for workers := range int64(8) {
			for range 3 {
				wantText(t, fmt.Sprint("workers: ", workers+1), sharedText(n, from, tos, workers+1), fmt.Sprint(want, " true"))
			}
		}
	}
}

func cutTreeText(n impl.Net) string {
	parents, weights, ok := impl.CutTree(n)
	return fmt.Sprint(parents, " ", weights, " ", ok)
}

func TestCutTree(t *testing.T) {
	star := netOf(4, arc(3, 0, 5, 0), arc(1, 3, 6, 0), arc(3, 2, 7, 0))
	for _, c := range []struct {
		what string
		n    impl.Net
		want string
	}{
		{"the example", exampleNet(), "[0 0 1] [0 4 3] true"},
		{"no arcs", netOf(3), "[0 0 0] [0 0 0] true"},
		{"two nodes", netOf(2, arc(1, 0, 5, 0), arc(0, 1, 3, 0)), "[0 0] [0 8] true"},
		{"a line", lineNet(5, 4, 3), "[0 0 1 2] [0 5 4 3] true"},
		{"a line from the other end", netOf(4, arc(3, 2, 5, 0), arc(2, 1, 4, 0), arc(1, 0, 3, 0)), "[0 0 1 2] [0 3 4 5] true"},
		{"a star", star, "[0 0 1 2] [0 5 6 7] true"},
		{"arcs without room", netOf(3, arc(0, 1, 0, 0), arc(1, 2, 5, 0)), "[0 0 1] [0 0 5] true"},
		{"costs do not count", netOf(3, arc(0, 1, 2, -1000), arc(1, 0, 2, 1000), arc(1, 2, 5, -1000)), "[0 0 1] [0 4 5] true"},
		{"most arcs", netOf(2, repeatArc(24, arc(0, 1, 1000000, 0))...), "[0 0] [0 24000000] true"},
		{"one beyond it", netOf(2, repeatArc(25, arc(0, 1, 1, 0))...), "[] [] false"},
		{"most nodes", lineNet(repeat(15, int64(2))...), "[0 0 1 2 3 4 5 6 7 8 9 10 11 12 13 14] [0 2 2 2 2 2 2 2 2 2 2 2 2 2 2 2] true"},
	} {
		wantText(t, "CutTree, "+c.what, cutTreeText(c.n), c.want)
	}
}
