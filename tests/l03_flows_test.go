package tests

import (
	"fmt"
	"math"
	"testing"

	"loop.example/g01346/impl"
)

func arc(from, to, room, cost int64) impl.Arc {
	return impl.Arc{From: from, To: to, Room: room, Cost: cost}
}

func netOf(nodes int64, arcs ...impl.Arc) impl.Net { return impl.Net{Nodes: nodes, Arcs: arcs} }

// exampleNet is the net of the document's example, with another arc.
func exampleNet() impl.Net {
	return netOf(3, arc(0, 1, 3, 1), arc(1, 2, 2, 2), arc(0, 2, 1, 9))
}

// crossNet is a net whose greatest flow must turn back the way that it takes
// first: 0 1 2 3 is the shortest one, as the other ways are longer.
func crossNet() impl.Net {
	return netOf(6, arc(0, 1, 1, 1), arc(1, 2, 1, -5), arc(2, 3, 1, 1), arc(0, 4, 1, 3), arc(4, 2, 1, 3), arc(1, 5, 1, 3), arc(5, 3, 1, 3))
}

// ringNet has as many nodes and arcs as can be: three rings of all nodes.
func ringNet() impl.Net {
	n := impl.Net{Nodes: 16}
	for i := range int64(48) {
		n.Arcs = append(n.Arcs, arc(i%16, (i+1)%16, 1000000-i, i/16))
	}
	return n
}

func repeatArc(n int, a impl.Arc) []impl.Arc { return repeat(n, a) }

// edgeNets are valid nets at limits.
func edgeNets() []impl.Net {
	return []impl.Net{
		netOf(2), netOf(16), netOf(2, arc(1, 0, 0, 0)), netOf(2, arc(0, 1, 1000000, 1000)), netOf(2, arc(0, 1, 1000000, -1000)),
		netOf(16, arc(15, 0, 1, 1), arc(0, 15, 1, 1)), netOf(2, arc(0, 1, 5, 0), arc(1, 0, 5, 0), arc(0, 1, 5, 0)),
		netOf(2, repeatArc(48, arc(0, 1, 1000000, 1000))...), ringNet(), exampleNet(), crossNet(),
	}
}

// invalidNets are nets in each of which one thing is wrong.
func invalidNets() []impl.Net {
	list := []impl.Net{
		netOf(0), netOf(1), netOf(17), netOf(-1), netOf(math.MaxInt64), netOf(math.MinInt64), netOf(1<<32 + 3),
		netOf(2, repeatArc(49, arc(0, 1, 1, 1))...), netOf(2, repeatArc(5000, arc(0, 1, 1, 1))...),
	}
	for _, wrong := range []impl.Arc{
		arc(0, 0, 1, 1), arc(2, 2, 1, 1), arc(-1, 1, 1, 1), arc(3, 1, 1, 1), arc(1, -1, 1, 1), arc(1, 3, 1, 1),
		arc(1<<32, 1, 1, 1), arc(0, 1<<32+1, 1, 1), arc(math.MinInt64, 1, 1, 1), arc(0, math.MaxInt64, 1, 1),
		arc(0, 1, -1, 1), arc(0, 1, 1000001, 1), arc(0, 1, math.MaxInt64, 1), arc(0, 1, math.MinInt64, 1),
		arc(0, 1, 1, 1001), arc(0, 1, 1, -1001), arc(0, 1, 1, math.MaxInt64), arc(0, 1, 1, math.MinInt64),
	} {
		list = append(list, netOf(3, wrong, arc(0, 1, 1, 1), arc(1, 2, 1, 1)), netOf(3, arc(0, 1, 1, 1), arc(1, 2, 1, 1), wrong))
	}
	return list
}

func TestLimitsOfChapter3(t *testing.T) {
	wantText(t, "limits", fmt.Sprint(impl.MaxNodes, impl.MaxArcs, impl.MaxWorkers), "16 48 8")
}

func TestValidNet(t *testing.T) {
	for _, n := range edgeNets() {
		wantBool(t, fmt.Sprint("ValidNet of ", n), impl.ValidNet(n), true)
	}
	for _, n := range invalidNets() {
		wantBool(t, fmt.Sprintf("ValidNet of %.99s", fmt.Sprint(n)), impl.ValidNet(n), false)
	}
}

func TestSameNet(t *testing.T) {
	a := exampleNet()
	wantBool(t, "an equal net", impl.SameNet(a, exampleNet()), true)
	wantBool(t, "nil and empty arcs", impl.SameNet(netOf(2), impl.Net{Nodes: 2, Arcs: []impl.Arc{}}), true)
	for _, n := range invalidNets() {
		copied := impl.Net{Nodes: n.Nodes, Arcs: append([]impl.Arc(nil), n.Arcs...)}
		wantBool(t, fmt.Sprintf("an equal invalid net %.99s", fmt.Sprint(n)), impl.SameNet(n, copied), true)
		wantBool(t, "another net", impl.SameNet(n, a), false)
	}
	for i := range a.Arcs {
		for k := range 4 {
			b := exampleNet()
			parts := []*int64{&b.Arcs[i].From, &b.Arcs[i].To, &b.Arcs[i].Room, &b.Arcs[i].Cost}
			*parts[k] += 7
			wantBool(t, fmt.Sprint("another part ", k, " of arc ", i), impl.SameNet(a, b) || impl.SameNet(b, a), false)
		}
	}
	for _, b := range []impl.Net{
		netOf(4, a.Arcs...), netOf(3, a.Arcs[:2]...), netOf(3), netOf(3, a.Arcs[1], a.Arcs[0], a.Arcs[2]), netOf(3, append(exampleNet().Arcs, a.Arcs[2])...),
	} {
		wantBool(t, fmt.Sprint("other nets ", b), impl.SameNet(a, b) || impl.SameNet(b, a), false)
	}
}

func TestPlainNet(t *testing.T) {
	for _, n := range edgeNets() {
		got, ok := impl.PlainNet(n.Nodes, n.Arcs)
		wantText(t, "PlainNet", fmt.Sprint(got, ok), fmt.Sprint(n, true))
	}
	for _, n := range invalidNets() {
		got, ok := impl.PlainNet(n.Nodes, n.Arcs)
		wantText(t, fmt.Sprintf("PlainNet of %.99s", fmt.Sprint(n)), fmt.Sprint(got, ok), "{0 []} false")
	}
}

// wrongFlows are lists that are no flows of the example.
func wrongFlows() [][]int64 {
	return [][]int64{
		nil, {}, {2, 2}, {2, 2, 1, 0}, {-1, -1, 0}, {0, 0, -1}, {4, 2, 1}, {3, 3, 1}, {2, 2, 2}, {math.MaxInt64, 0, 0}, {math.MinInt64, 0, 0},
		{1 << 32, 1 << 32, 0}, make([]int64, 5000),
	}
}

func TestIsFlow(t *testing.T) {
	n := exampleNet()
	for _, flow := range [][]int64{{2, 2, 1}, {0, 0, 0}, {1, 1, 0}, {0, 0, 1}, {2, 2, 0}} {
		wantBool(t, fmt.Sprint("IsFlow of ", flow), impl.IsFlow(n, flow, 0, 2), true)
		wantBool(t, fmt.Sprint("IsFlow the other way of ", flow), impl.IsFlow(n, flow, 2, 0), true)
	}
	for _, flow := range append(wrongFlows(), []int64{1, 0, 0}, []int64{3, 2, 1}, []int64{1, 2, 0}) {
		wantBool(t, fmt.Sprintf("IsFlow of %.99s", fmt.Sprint(flow)), impl.IsFlow(n, flow, 0, 2), false)
	}
	wantBool(t, "between other nodes", impl.IsFlow(n, []int64{1, 0, 0}, 0, 1), true)
	wantBool(t, "between other nodes", impl.IsFlow(n, []int64{1, 1, 0}, 0, 1), false)
	for _, ends := range [][2]int64{{0, 0}, {2, 2}, {-1, 2}, {0, 3}, {3, 0}, {0, -1}, {0, math.MaxInt64}, {math.MinInt64, 2}, {1 << 32, 2}} {
		wantBool(t, fmt.Sprint("IsFlow between ", ends), impl.IsFlow(n, []int64{0, 0, 0}, ends[0], ends[1]), false)
	}
	round := netOf(3, arc(0, 1, 2, 0), arc(1, 0, 2, 0), arc(1, 2, 2, 0))
	wantBool(t, "a round alone", impl.IsFlow(round, []int64{2, 2, 0}, 0, 2), true)
	wantBool(t, "a round and a way", impl.IsFlow(round, []int64{2, 1, 1}, 0, 2), true)
	wantBool(t, "no arcs", impl.IsFlow(netOf(2), nil, 0, 1), true)
}

func TestFlowAmountAndCost(t *testing.T) {
	n := netOf(4, arc(0, 1, 5, 10), arc(1, 0, 5, -3), arc(1, 2, 5, 0), arc(0, 2, 5, 7))
	flow := []int64{5, 2, 0, 4} // what comes in need not be what goes out
	for from, want := range []string{"7 true", "-3 true", "-4 true", "0 true"} {
		amount, ok := impl.FlowAmount(n, flow, int64(from))
		wantText(t, fmt.Sprint("FlowAmount from ", from), fmt.Sprint(amount, ok), want)
	}
	cost, ok := impl.FlowCost(n, flow)
	wantText(t, "FlowCost", fmt.Sprint(cost, ok), "72 true")
	great := netOf(2, repeatArc(48, arc(0, 1, 1000000, -1000))...)
	most := repeat(48, int64(1000000))
	amount, one := impl.FlowAmount(great, most, 1)
	cost, two := impl.FlowCost(great, most)
	wantText(t, "the greatest ones", fmt.Sprint(amount, one, cost, two), "-48000000 true -48000000000 true")
	for _, flow := range wrongFlows() {
		amount, one := impl.FlowAmount(exampleNet(), flow, 0)
		cost, two := impl.FlowCost(exampleNet(), flow)
		wantText(t, fmt.Sprintf("no flow: %.99s", fmt.Sprint(flow)), fmt.Sprint(amount, one, cost, two), "0 false 0 false")
	}
	for _, from := range []int64{-1, 4, math.MaxInt64, math.MinInt64, 1 << 32} {
		amount, ok := impl.FlowAmount(n, flow, from)
		wantText(t, fmt.Sprint("no node ", from), fmt.Sprint(amount, ok), "0 false")
	}
	cost, ok = impl.FlowCost(netOf(2), nil)
	wantText(t, "no arcs", fmt.Sprint(cost, ok), "0 true")
}

func greatText(n impl.Net, from, to int64) string {
	flow, amount, ok := impl.GreatFlow(n, from, to)
	return fmt.Sprint(flow, " ", amount, " ", ok)
}

func TestGreatFlow(t *testing.T) {
	for _, c := range []struct {
		what     string
		n        impl.Net
		from, to int64
		want     string
	}{
		{"the document's example", netOf(3, arc(0, 1, 3, 0), arc(1, 2, 2, 0)), 0, 2, "[2 2] 2 true"},
		{"the example", exampleNet(), 0, 2, "[2 2 1] 3 true"},
		{"against the arcs", exampleNet(), 2, 0, "[0 0 0] 0 true"},
		{"to a node between", exampleNet(), 0, 1, "[3 0 0] 3 true"},
		{"no arcs", netOf(2), 0, 1, "[] 0 true"},
		{"an arc without room", netOf(3, arc(0, 1, 0, 0), arc(1, 2, 5, 0)), 0, 2, "[0 0] 0 true"},
		{"an arc without room beside one with room", netOf(2, arc(0, 1, 0, 0), arc(0, 1, 5, 0)), 0, 1, "[0 5] 5 true"},
		{"a node that is not reached", netOf(4, arc(0, 1, 5, 0), arc(3, 2, 5, 0)), 0, 2, "[0 0] 0 true"},
		{"arcs into from and out of to", netOf(3, arc(1, 0, 5, 0), arc(2, 1, 5, 0), arc(2, 0, 5, 0), arc(0, 2, 4, 0)), 0, 2, "[0 0 0 4] 4 true"},
		{"a turned arc", crossNet(), 0, 3, "[1 0 1 1 1 1 1] 2 true"},
		{"equal ways: the first arc of the first node", netOf(4, arc(0, 2, 1, 0), arc(0, 1, 1, 0), arc(1, 3, 1, 0), arc(2, 3, 1, 0), arc(3, 0, 1, 0)), 0, 3, "[1 1 1 1 0] 2 true"},
		{"equal ways: nodes in the order in which they are reached", netOf(5, arc(0, 2, 3, 0), arc(0, 1, 3, 0), arc(1, 3, 3, 0), arc(2, 3, 3, 0), arc(3, 4, 3, 0)), 0, 4, "[3 0 0 3 3] 3 true"},
		{"equal ways: parallel arcs in order", netOf(3, arc(0, 1, 2, 5), arc(0, 1, 2, 0), arc(1, 2, 3, 0)), 0, 2, "[2 1 3] 3 true"},
		{"fewer arcs come first", netOf(3, arc(0, 1, 4, 0), arc(1, 2, 4, 0), arc(0, 2, 4, 0), arc(2, 0, 0, 0)), 0, 2, "[4 4 4 0] 8 true"},
		{"fewer arcs come first, and take the room", netOf(4, arc(0, 1, 4, 0), arc(1, 2, 4, 0), arc(0, 2, 4, 0), arc(2, 3, 5, 0)), 0, 3, "[1 1 4 5] 5 true"},
		{"great rooms", netOf(2, repeatArc(48, arc(1, 0, 1000000, 0))...), 1, 0, fmt.Sprint(repeat(48, int64(1000000)), " 48000000 true")},
		{"the same node", exampleNet(), 1, 1, "[] 0 false"},
		{"no node", exampleNet(), 0, 3, "[] 0 false"},
		{"no node", exampleNet(), -1, 2, "[] 0 false"},
		{"no node", exampleNet(), 3, 2, "[] 0 false"},
		{"no node", exampleNet(), 0, -1, "[] 0 false"},
		{"no node", exampleNet(), 1 << 32, 2, "[] 0 false"},
		{"the last node", ringNet(), 0, 15, fmt.Sprint(ringFlow(), " 2999910 true")},
	} {
		wantText(t, "GreatFlow, "+c.what, greatText(c.n, c.from, c.to), c.want)
		_, amount, ok := impl.GreatFlow(c.n, c.from, c.to)
		pushed, same := impl.PushFlow(c.n, c.from, c.to)
		wantText(t, "PushFlow, "+c.what, fmt.Sprint(pushed, same), fmt.Sprint(amount, ok))
	}
}

// ringFlow is what flows from 0 to 15 through ringNet: each ring, or rather what
// its arc from 14 to 15 has room for, first that of the first arcs.
func ringFlow() []int64 {
	flow := make([]int64, 48)
	for node := range 15 {
		left := int64(2999910) // the sum of the rooms from 14 to 15
		for ring := range 3 {
			i := ring*16 + node
			flow[i] = min(left, int64(1000000-i))
			left -= flow[i]
		}
	}
	return flow
}

func TestCutOfAndCutRoom(t *testing.T) {
	cross := crossNet()
	for _, c := range []struct {
		what string
		n    impl.Net
		flow []int64
		from int64
		want string
	}{
		{"the document's example", netOf(3, arc(0, 1, 3, 0), arc(1, 2, 2, 0)), []int64{2, 2}, 0, "[0 1] true"},
		{"a flow that is not the greatest one", exampleNet(), []int64{2, 2, 0}, 0, "[0 1 2] true"},
		{"from another node, by turned arcs", exampleNet(), []int64{2, 2, 1}, 2, "[0 1 2] true"},
		{"from another node", exampleNet(), []int64{0, 0, 0}, 2, "[2] true"},
		{"a full flow", exampleNet(), []int64{3, 2, 1}, 0, "[0] true"},
		{"what comes in is not what goes out", exampleNet(), []int64{3, 0, 1}, 1, "[0 1 2] true"},
		{"arcs without room", netOf(3, arc(0, 1, 0, 0), arc(1, 2, 1, 0)), []int64{0, 0}, 0, "[0] true"},
		{"reached out of order", netOf(4, arc(0, 3, 1, 0), arc(3, 1, 1, 0), arc(1, 2, 0, 0)), []int64{0, 0, 0}, 0, "[0 1 3] true"},
		{"a turned arc", cross, []int64{1, 0, 1, 1, 1, 1, 1}, 0, "[0] true"},
		{"a turned arc", cross, []int64{1, 1, 1, 0, 0, 0, 0}, 0, "[0 1 2 3 4 5] true"},
		{"no arcs", netOf(2), nil, 1, "[1] true"},
		{"no node", exampleNet(), []int64{0, 0, 0}, 3, "[] false"},
		{"no node", exampleNet(), []int64{0, 0, 0}, -1, "[] false"},
	} {
		cut, ok := impl.CutOf(c.n, c.flow, c.from)
		wantText(t, "CutOf, "+c.what, fmt.Sprint(cut, " ", ok), c.want)
	}
	for _, flow := range wrongFlows() {
		cut, ok := impl.CutOf(exampleNet(), flow, 0)
		wantText(t, fmt.Sprintf("CutOf, no flow: %.99s", fmt.Sprint(flow)), fmt.Sprint(cut, ok), "[] false")
	}
}

func TestCutRoom(t *testing.T) {
	n := netOf(4, arc(0, 1, 3, 0), arc(1, 2, 20, 0), arc(0, 2, 100, 0), arc(2, 0, 5000, 0), arc(0, 1, 70000, 0), arc(2, 1, 0, 0))
	for _, c := range []struct {
		set  []int64
		want string
	}{
		{nil, "0 true"}, {[]int64{}, "0 true"}, {[]int64{0}, "70103 true"}, {[]int64{1}, "20 true"}, {[]int64{2}, "5000 true"}, {[]int64{3}, "0 true"},
		{[]int64{0, 1}, "120 true"}, {[]int64{0, 2}, "70003 true"}, {[]int64{1, 2}, "5000 true"}, {[]int64{0, 3}, "70103 true"},
		{[]int64{0, 1, 2}, "0 true"}, {[]int64{0, 1, 2, 3}, "0 true"}, {[]int64{1, 3}, "20 true"},
		{[]int64{1, 0}, "0 false"}, {[]int64{0, 0}, "0 false"}, {[]int64{0, 1, 1}, "0 false"}, {[]int64{0, 2, 1}, "0 false"}, {[]int64{-1}, "0 false"},
		{[]int64{4}, "0 false"}, {[]int64{-1, 0}, "0 false"}, {[]int64{0, 4}, "0 false"}, {[]int64{math.MinInt64, math.MaxInt64}, "0 false"},
		{[]int64{0, 1 << 32}, "0 false"}, {repeat(5000, int64(0)), "0 false"}, {[]int64{3, 2, 1, 0}, "0 false"},
	} {
		room, ok := impl.CutRoom(n, c.set)
		wantText(t, fmt.Sprintf("CutRoom of %.99s", fmt.Sprint(c.set)), fmt.Sprint(room, ok), c.want)
	}
	great, ok := impl.CutRoom(netOf(2, repeatArc(48, arc(1, 0, 1000000, 0))...), []int64{1})
	wantText(t, "the greatest room", fmt.Sprint(great, ok), "48000000 true")
}

func cheapText(n impl.Net, from, to, amount int64) string {
	flow, cost, ok := impl.CheapFlow(n, from, to, amount)
	return fmt.Sprint(flow, " ", cost, " ", ok)
}

func TestCheapFlow(t *testing.T) {
	loss := netOf(4, arc(0, 1, 9, 0), arc(2, 3, 9, -3), arc(3, 2, 9, 2))
	hidden := netOf(4, arc(0, 1, 9, 0), arc(2, 3, 9, -3), arc(3, 2, 0, 2))
	none := netOf(4, arc(0, 1, 9, 0), arc(2, 3, 9, -3), arc(3, 2, 9, 3))
	for _, c := range []struct {
		what             string
		n                impl.Net
		from, to, amount int64
		want             string
	}{
		{"the example", exampleNet(), 0, 2, 1, "[1 1 0] 3 true"},
		{"all of one way", exampleNet(), 0, 2, 2, "[2 2 0] 6 true"},
		{"another way", exampleNet(), 0, 2, 3, "[2 2 1] 15 true"},
		{"too much", exampleNet(), 0, 2, 4, "[] 0 false"},
		{"nothing", exampleNet(), 0, 2, 0, "[0 0 0] 0 true"},
		{"nothing to a node that is not reached", exampleNet(), 2, 0, 0, "[0 0 0] 0 true"},
		{"something to a node that is not reached", exampleNet(), 2, 0, 1, "[] 0 false"},
		{"less than nothing", exampleNet(), 0, 2, -1, "[] 0 false"},
		{"the greatest amount", netOf(2, arc(0, 1, 1000000, 1000)), 0, 1, 1000000, "[1000000] 1000000000 true"},
		{"one beyond it", netOf(2, arc(0, 1, 1000000, 1000), arc(0, 1, 9, 0)), 0, 1, 1000001, "[] 0 false"},
		{"more than that", netOf(2, arc(0, 1, 1000000, 1000)), 0, 1, math.MaxInt64, "[] 0 false"},
		{"costs less than 0", crossNet(), 0, 3, 1, "[1 1 1 0 0 0 0] -3 true"},
		{"a turned arc", crossNet(), 0, 3, 2, "[1 0 1 1 1 1 1] 14 true"},
		{"a round of loss elsewhere", loss, 0, 1, 1, "[] 0 false"},
		{"a round of loss elsewhere, and nothing", loss, 0, 1, 0, "[] 0 false"},
		{"a round of loss without room", hidden, 0, 1, 9, "[9 0 0] 0 true"},
		{"a round that costs nothing", none, 0, 1, 9, "[9 0 0] 0 true"},
		{"an arc without room", netOf(2, arc(0, 1, 0, -9), arc(0, 1, 2, 5)), 0, 1, 2, "[0 2] 10 true"},
		{"equal ways: the first arc", netOf(2, arc(0, 1, 2, 5), arc(0, 1, 2, 5)), 0, 1, 3, "[2 1] 15 true"},
		{"equal ways: the one that is found first", netOf(4, arc(2, 3, 1, 0), arc(0, 1, 1, 0), arc(1, 3, 1, 0), arc(0, 2, 1, 0)), 0, 3, 1, "[0 1 1 0] 0 true"},
		{"equal ways: the same with the other one first", netOf(4, arc(0, 2, 1, 0), arc(2, 3, 1, 0), arc(0, 1, 1, 0), arc(1, 3, 1, 0)), 0, 3, 1, "[1 1 0 0] 0 true"},
		{"no arcs", netOf(2), 0, 1, 0, "[] 0 true"},
		{"the same node", exampleNet(), 1, 1, 0, "[] 0 false"},
		{"no node", exampleNet(), 0, 3, 0, "[] 0 false"},
		{"no node", exampleNet(), -1, 2, 0, "[] 0 false"},
		{"no node", exampleNet(), 3, 2, 0, "[] 0 false"},
		{"no node", exampleNet(), 0, -1, 0, "[] 0 false"},
	} {
		wantText(t, "CheapFlow, "+c.what, cheapText(c.n, c.from, c.to, c.amount), c.want)
	}
}

// TestCheapFlowGoesAllTheWay has a least way of 15 arcs that are told last to
// first, so that each of the times finds one more of them.
func TestCheapFlowGoesAllTheWay(t *testing.T) {
	n := impl.Net{Nodes: 16, Arcs: []impl.Arc{arc(0, 15, 5, 1000)}}
	for node := int64(14); node >= 0; node-- {
		n.Arcs = append(n.Arcs, arc(node, node+1, 5, -1000))
	}
	flow := append([]int64{0}, repeat(15, int64(2))...)
	wantText(t, "CheapFlow", cheapText(n, 0, 15, 2), fmt.Sprint(flow, " -30000 true"))
	flow = append([]int64{1}, repeat(15, int64(5))...)
	wantText(t, "CheapFlow", cheapText(n, 0, 15, 6), fmt.Sprint(flow, " -74000 true"))
}

func TestWayOfFlow(t *testing.T) {
	round := netOf(3, arc(0, 1, 99, 0), arc(1, 0, 99, 0), arc(1, 2, 99, 0))
	short := netOf(3, arc(0, 1, 99, 0), arc(1, 0, 99, 0), arc(0, 2, 99, 0))
	pair := netOf(2, arc(0, 1, 99, 0), arc(1, 0, 99, 0))
	for _, c := range []struct {
		what     string
		n        impl.Net
		flow     []int64
		from, to int64
		want     string
	}{
		{"the example", exampleNet(), []int64{2, 2, 1}, 0, 2, "[[0 1] [0 1] [2]] true"},
		{"nothing", exampleNet(), []int64{0, 0, 0}, 0, 2, "[] true"},
		{"no arcs", netOf(2), nil, 0, 1, "[] true"},
		{"the first arc that begins there", netOf(2, arc(1, 0, 5, 0), arc(0, 1, 5, 0), arc(0, 1, 5, 0)), []int64{0, 2, 1}, 0, 1, "[[1] [1] [2]] true"},
		{"a round first", round, []int64{3, 2, 1}, 0, 2, "[[0 1 0 1 0 2]] true"},
		{"a round away from the way", netOf(4, arc(2, 3, 5, 0), arc(3, 2, 5, 0), arc(0, 1, 5, 0)), []int64{4, 4, 1}, 0, 1, "[[2]] true"},
		{"a round alone", round, []int64{3, 3, 0}, 0, 2, "[] true"},
		{"out of to again", pair, []int64{3, 1}, 0, 1, "[[0] [0]] true"},
		{"less than nothing", pair, []int64{1, 3}, 0, 1, "[] false"},
		{"the other way", pair, []int64{1, 3}, 1, 0, "[[1] [1]] true"},
		{"against the flow", exampleNet(), []int64{2, 2, 1}, 2, 0, "[] false"},
		{"most ways", pair, []int64{48, 0}, 0, 1, fmt.Sprint(repeat(48, []int64{0}), " true")},
		{"one beyond it", pair, []int64{49, 0}, 0, 1, "[] false"},
		{"far beyond it", pair, []int64{99, 0}, 0, 1, "[] false"},
		{"most arcs", round, []int64{24, 23, 1}, 0, 2, fmt.Sprint([][]int64{append(repeatPair(23, 0, 1), 0, 2)}, " true")},
		{"beyond it", round, []int64{25, 24, 1}, 0, 2, "[] false"},
		{"one beyond it", short, []int64{24, 24, 1}, 0, 2, "[] false"},
		{"one less than most arcs", short, []int64{23, 23, 1}, 0, 2, fmt.Sprint([][]int64{append(repeatPair(23, 0, 1), 2)}, " true")},
		{"a later way that is too long", netOf(3, arc(0, 2, 1, 0), arc(0, 1, 99, 0), arc(1, 0, 99, 0), arc(0, 2, 99, 0)), []int64{1, 24, 24, 1}, 0, 2, "[] false"},
		{"no flow between these", exampleNet(), []int64{1, 0, 0}, 0, 2, "[] false"},
		{"the same node", exampleNet(), []int64{0, 0, 0}, 2, 2, "[] false"},
		{"no node", exampleNet(), []int64{0, 0, 0}, 0, 3, "[] false"},
		{"no node", exampleNet(), []int64{0, 0, 0}, -1, 0, "[] false"},
	} {
		ways, ok := impl.WayOfFlow(c.n, c.flow, c.from, c.to)
		wantText(t, "WayOfFlow, "+c.what, fmt.Sprint(ways, " ", ok), c.want)
	}
	for _, flow := range wrongFlows() {
		ways, ok := impl.WayOfFlow(exampleNet(), flow, 0, 2)
		wantText(t, fmt.Sprintf("WayOfFlow, no flow: %.99s", fmt.Sprint(flow)), fmt.Sprint(ways, ok), "[] false")
	}
}

// repeatPair returns two numbers, n times, and has room for two more.
func repeatPair(n int, a, b int64) []int64 {
	var list []int64
	for range n {
		list = append(list, a, b)
	}
	return list
}

func TestLossRound(t *testing.T) {
	for _, c := range []struct {
		what string
		n    impl.Net
		flow []int64
		want string
	}{
		{"two nodes", netOf(2, arc(0, 1, 1, -3), arc(1, 0, 1, 2)), []int64{0, 0}, "[0 1] true"},
		{"two nodes, the other arc first", netOf(2, arc(1, 0, 1, 2), arc(0, 1, 1, -3)), []int64{0, 0}, "[1 0] true"},
		{"a sum of 0", netOf(2, arc(0, 1, 1, -3), arc(1, 0, 1, 3)), []int64{0, 0}, "[] false"},
		{"a sum of -1", netOf(3, arc(0, 1, 1, 1), arc(1, 2, 1, -3), arc(2, 0, 1, 1)), []int64{0, 0, 0}, "[0 1 2] true"},
		{"in the direction of the arcs", netOf(4, arc(0, 1, 1, -1), arc(1, 2, 1, -1), arc(2, 3, 1, -1), arc(3, 0, 1, 0)), []int64{0, 0, 0, 0}, "[0 1 2 3] true"},
		{"against the flow", netOf(4, arc(1, 0, 1, 1), arc(2, 1, 1, 1), arc(3, 2, 1, 1), arc(0, 3, 1, 0)), []int64{1, 1, 1, 1}, "[0 1 2 3] true"},
		{"an arc without room", netOf(2, arc(0, 1, 1, -3), arc(1, 0, 0, 2)), []int64{0, 0}, "[] false"},
		{"a full arc", netOf(2, arc(0, 1, 1, -3), arc(1, 0, 1, 2)), []int64{1, 0}, "[] false"},
		{"a full arc turned around", netOf(2, arc(0, 1, 1, -3), arc(1, 0, 1, 2)), []int64{1, 1}, "[] false"},
		{"a full arc that costs", netOf(2, arc(0, 1, 1, 3), arc(0, 1, 1, 2)), []int64{1, 0}, "[1 0] true"},
		{"an arc that is neither full nor empty", netOf(2, arc(0, 1, 2, 3), arc(0, 1, 2, 2)), []int64{1, 1}, "[1 0] true"},
		{"a tail behind the round", netOf(5, arc(0, 1, 1, -2), arc(1, 0, 1, 1), arc(1, 2, 1, 0), arc(2, 3, 1, 0), arc(3, 4, 1, 0)), repeat(5, int64(0)), "[1 0] true"},
		{"a tail before the round", netOf(4, arc(0, 1, 1, -9), arc(1, 2, 1, 0), arc(2, 3, 1, -2), arc(3, 2, 1, 1)), repeat(4, int64(0)), "[2 3] true"},
		{"not from 0", netOf(4, arc(2, 3, 9, -3), arc(3, 2, 9, 2)), []int64{4, 4}, "[2 3] true"},
		{"no arcs", netOf(2), nil, "[] false"},
		{"no loss", exampleNet(), []int64{2, 2, 1}, "[] false"},
		{"a flow that is not cheap", exampleNet(), []int64{0, 0, 1}, "[0 1 2] true"},
	} {
		round, ok := impl.LossRound(c.n, c.flow)
		wantText(t, "LossRound, "+c.what, fmt.Sprint(round, " ", ok), c.want)
	}
	for _, flow := range wrongFlows() {
		round, ok := impl.LossRound(exampleNet(), flow)
		wantText(t, fmt.Sprintf("LossRound, no flow: %.99s", fmt.Sprint(flow)), fmt.Sprint(round, ok), "[] false")
	}
}
