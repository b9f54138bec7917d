package tests

import (
	"fmt"
	"math"
	"sort"
	"testing"

	"loop.example/g01346/impl"
)

// This file holds a model of chapter 3 that is written apart from the program,
// straight from the document's text, and looks at all there is where this is
// little: all sets of nodes, all flows, all lists of pairs, all sets of arcs.

// modelArc is a left over arc: of which arc of the net, and what one that flows
// along it adds to the flow of that arc.
type modelArc struct {
	from, to, room, cost int64
	of                   int
	adds                 int64
}

func modelLeftOver(n impl.Net, flow []int64) []modelArc {
	var list []modelArc
	for k, a := range n.Arcs {
		for _, m := range []modelArc{{a.From, a.To, a.Room - flow[k], a.Cost, k, 1}, {a.To, a.From, flow[k], -a.Cost, k, -1}} {
			if m.room > 0 {
				list = append(list, m)
			}
		}
	}
	return list
}

// modelReach returns by which arc each node is reached, and all that are.
func modelReach(arcs []modelArc, from int64) (map[int64]modelArc, []int64) {
	by := map[int64]modelArc{}
	queue := []int64{from}
	done := map[int64]bool{from: true}
	for next := 0; next < len(queue); next++ {
		for _, a := range arcs {
			if a.from == queue[next] && !done[a.to] {
				by[a.to], done[a.to] = a, true
				queue = append(queue, a.to)
			}
		}
	}
	sort.Slice(queue, func(i, j int) bool { return queue[i] < queue[j] })
	return by, queue
}

// modelPush lets flow what can along the way to a node, and returns how much.
func modelPush(flow []int64, by map[int64]modelArc, from, to, most int64) int64 {
	for node := to; node != from; node = by[node].from {
		if by[node].room < most {
			most = by[node].room
		}
	}
	for node := to; node != from; node = by[node].from {
		flow[by[node].of] += most * by[node].adds
	}
	return most
}

func modelGreat(n impl.Net, from, to int64) ([]int64, int64) {
	flow, amount := make([]int64, len(n.Arcs)), int64(0)
	for {
		by, _ := modelReach(modelLeftOver(n, flow), from)
		if _, reached := by[to]; !reached {
			return flow, amount
		}
		amount += modelPush(flow, by, from, to, math.MaxInt64)
	}
}

// modelTimes does what is told for a least way, and returns the nodes whose
// longs become less in the last time, in order.
func modelTimes(arcs []modelArc, longs map[int64]int64, times int64) (map[int64]modelArc, []int64) {
	by := map[int64]modelArc{}
	var ends []int64
	for ; times > 0; times-- {
		ends = nil
		for _, a := range arcs {
			begin, one := longs[a.from]
			end, two := longs[a.to]
			if one && (!two || end > begin+a.cost) {
				longs[a.to], by[a.to] = begin+a.cost, a
				ends = append(ends, a.to)
			}
		}
	}
	return by, ends
}

func modelLoss(n impl.Net, flow []int64) []int64 {
	longs := map[int64]int64{}
	for node := range n.Nodes {
		longs[node] = 0
	}
	by, ends := modelTimes(modelLeftOver(n, flow), longs, n.Nodes)
	if len(ends) == 0 {
		return nil
	}
	first := ends[len(ends)-1]
	for range n.Nodes {
		first = by[first].from
	}
	round := []int64{first}
	for node := by[first].from; node != first; node = by[node].from {
		round = append([]int64{first, node}, round[1:]...)
	}
	return round
}

func modelCheap(n impl.Net, from, to, amount int64) string {
	flow := make([]int64, len(n.Arcs))
	if modelLoss(n, flow) != nil {
		return "[] 0 false"
	}
	for missing := amount; missing > 0; {
		by, _ := modelTimes(modelLeftOver(n, flow), map[int64]int64{from: 0}, n.Nodes-1)
		if _, reached := by[to]; !reached {
			return "[] 0 false"
		}
		missing -= modelPush(flow, by, from, to, missing)
	}
	cost := int64(0)
	for i := range flow {
		cost += n.Arcs[i].Cost * flow[i]
	}
	return fmt.Sprint(flow, " ", cost, " true")
}

// modelOut returns what goes out of nodes, less what comes in.
func modelOut(n impl.Net, flow []int64) []int64 {
	out := make([]int64, n.Nodes)
	for i, a := range n.Arcs {
		out[a.From] += flow[i]
		out[a.To] -= flow[i]
	}
	return out
}

// modelBetween reports whether nothing is left or missing but at two nodes.
func modelBetween(out []int64, from, to int64) bool {
	for node, amount := range out {
		if int64(node) != from && int64(node) != to && amount != 0 {
			return false
		}
	}
	return from != to
}

func modelWays(n impl.Net, flow []int64, from, to int64) string {
	amount := modelOut(n, flow)[from]
	if amount < 0 || amount > 48 {
		return "[] false"
	}
	left := append([]int64(nil), flow...)
	ways := [][]int64{}
	for ; amount > 0; amount-- {
		way := []int64{}
		for node := from; node != to; {
			next := -1
			for i := len(left) - 1; i >= 0; i-- {
				if n.Arcs[i].From == node && left[i] > 0 {
					next = i
				}
			}
			if next < 0 || len(way) == 48 {
				return "[] false"
			}
			left[next]--
			way = append(way, int64(next))
			node = n.Arcs[next].To
		}
		ways = append(ways, way)
	}
	return fmt.Sprint(ways, " true")
}

func modelWide(n impl.Net, from, to int64) string {
	width, settled, by := map[int64]int64{from: 1000001}, map[int64]bool{}, map[int64]int{}
	for len(settled) < len(width) {
		best := int64(-1)
		for node := n.Nodes - 1; node >= 0; node-- {
			if w, has := width[node]; has && !settled[node] && (best < 0 || w >= width[best]) {
				best = node
			}
		}
		settled[best] = true
		for i, a := range n.Arcs {
			w := min(width[best], a.Room)
			if old, has := width[a.To]; a.From == best && (!has || w > old) {
				width[a.To], by[a.To] = w, i
			}
		}
	}
	if _, reached := by[to]; !reached {
		return "[] 0 false"
	}
	var way []int64
	for node := to; node != from; node = n.Arcs[by[node]].From {
		way = append([]int64{int64(by[node])}, way...)
	}
	return fmt.Sprint(way, " ", width[to], " true")
}

// roomOut returns the room out of a set of nodes, a bit each.
func roomOut(n impl.Net, set int) int64 {
	room := int64(0)
	for _, a := range n.Arcs {
		if set>>a.From&1 == 1 && set>>a.To&1 == 0 {
			room += a.Room
		}
	}
	return room
}

// leastCut looks at all sets of nodes with from and without to, and returns the
// least room out of one of them, and the nodes that are in all of these.
func leastCut(n impl.Net, from, to int64) (int64, []int64) {
	least, common := int64(math.MaxInt64), 0
	for set := range 1 << n.Nodes {
		if set>>from&1 == 0 || set>>to&1 == 1 {
			continue
		}
		switch room := roomOut(n, set); {
		case room < least:
			least, common = room, set
		case room == least:
			common &= set
		}
	}
	var nodes []int64
	for node := range n.Nodes {
		if common>>node&1 == 1 {
			nodes = append(nodes, node)
		}
	}
	return least, nodes
}

// allFlows calls visit with all flows of a net.
func allFlows(n impl.Net, visit func(flow []int64)) {
	flow := make([]int64, len(n.Arcs))
	for {
		visit(flow)
		i := 0
		for i < len(flow) && flow[i] == n.Arcs[i].Room {
			flow[i] = 0
			i++
		}
		if i == len(flow) {
			return
		}
		flow[i]++
	}
}

// leastCosts returns the longs of least ways between all pairs of nodes by left
// over arcs, found by going over one more node after another.
func leastCosts(nodes int64, arcs []modelArc) [][]int64 {
	const none = math.MaxInt64 / 4
	longs := make([][]int64, nodes)
	for i := range longs {
		longs[i] = repeat(int(nodes), int64(none))
		longs[i][i] = 0
	}
	for _, a := range arcs {
		longs[a.from][a.to] = min(longs[a.from][a.to], a.cost)
	}
	for k := range longs {
		for i := range longs {
			for j := range longs {
				if longs[i][k] < none && longs[k][j] < none {
					longs[i][j] = max(min(longs[i][j], longs[i][k]+longs[k][j]), -1e9)
				}
			}
		}
	}
	for i := range longs {
		for j := range longs {
			if longs[i][j] == none {
				longs[i][j] = -1e10 // no way
			}
		}
	}
	return longs
}

// modelTrees counts trees by pairs of nodes: those without arcs between the
// last node and another one, and those with one of them, which makes both one.
func modelTrees(n impl.Net) int64 {
	arcs := make([][]int64, n.Nodes)
	for i := range arcs {
		arcs[i] = make([]int64, n.Nodes)
	}
	for _, a := range n.Arcs {
		arcs[a.From][a.To]++
		arcs[a.To][a.From]++
	}
	return countTrees(arcs)
}

func countTrees(arcs [][]int64) int64 {
	last := len(arcs) - 1
	if last == 0 {
		return 1
	}
	for other := range last {
		count := arcs[last][other]
		if count == 0 {
			continue
		}
		without, joined := copySquare(arcs, last+1), copySquare(arcs, last)
		without[last][other], without[other][last] = 0, 0
		for k := range last {
			if k != other {
				joined[k][other] += arcs[last][k]
				joined[other][k] += arcs[last][k]
			}
		}
		return countTrees(without) + count*countTrees(joined)
	}
	return 0
}

func copySquare(table [][]int64, size int) [][]int64 {
	var copied [][]int64
	for _, row := range table[:size] {
		copied = append(copied, append([]int64(nil), row[:size]...))
	}
	return copied
}

// netKind tells what the nets of a kind have at most.
type netKind struct {
	nodes, moreNodes, arcs, rooms int
	cost                          func(state *sequence) int64
	byHeights                     bool
}

func netKinds() []netKind {
	few := func(state *sequence) int64 { return int64(state.below(3)) }
	return []netKind{
		{2, 3, 6, 3, func(state *sequence) int64 { return int64(state.below(6) - 2) }, false},
		{3, 5, 20, 10, few, false},
		{16, 1, 48, 1000001, func(state *sequence) int64 { return int64(state.below(2001) - 1000) }, false},
		{4, 7, 30, 6, few, true},
		{6, 1, 24, 3, func(state *sequence) int64 { return int64(state.below(2)) }, false},
		{8, 5, 24, 2, few, true},
		{2, 3, 6, 3, few, true},
		{12, 5, 48, 50, func(state *sequence) int64 { return int64(state.below(300)) }, true},
	}
}

// manyNets returns nets of several kinds. Where nodes have heights, an arc costs
// what it goes up, and a little more, so that no round is one of loss.
func manyNets(count int) []impl.Net {
	state := sequence(3)
	var list []impl.Net
	for i := range count {
		kind := netKinds()[i%len(netKinds())]
		n := impl.Net{Nodes: int64(kind.nodes + state.below(kind.moreNodes))}
		heights := make([]int64, n.Nodes)
		if kind.byHeights {
			for node := range heights {
				heights[node] = int64(state.below(9) * (i % 3))
			}
		}
		for range kind.arcs - state.below(kind.arcs/2+1)*state.below(2) {
			from := int64(state.below(int(n.Nodes)))
			to := (from + 1 + int64(state.below(int(n.Nodes)-1))) % n.Nodes
			room := int64(state.below(kind.rooms))
			n.Arcs = append(n.Arcs, arc(from, to, room, kind.cost(&state)+heights[to]-heights[from]))
		}
		list = append(list, n)
	}
	return list
}

// isLittle reports whether all flows of a net can be looked at.
func isLittle(n impl.Net) bool {
	count := int64(1)
	for _, a := range n.Arcs {
		if count *= a.Room + 1; count > 1000 {
			return false
		}
	}
	return true
}

// someEnds returns two nodes of a net that differ from step to step.
func someEnds(n impl.Net, step int) (int64, int64) {
	from := int64(step) % n.Nodes
	return from, (from + 1 + int64(step/2)%(n.Nodes-1)) % n.Nodes
}

func someFlow(state *sequence, n impl.Net) []int64 {
	flow := make([]int64, len(n.Arcs))
	for i, a := range n.Arcs {
		switch state.below(3) {
		case 0:
			flow[i] = a.Room
		case 1:
			flow[i] = int64(state.below(int(a.Room) + 1))
		}
	}
	return flow
}

func TestGreatFlowsAreThoseOfTheModel(t *testing.T) {
	for i, n := range manyNets(480) {
		from, to := someEnds(n, i/8)
		flow, amount := modelGreat(n, from, to)
		wantText(t, fmt.Sprint("GreatFlow of ", n, from, to), greatText(n, from, to), fmt.Sprint(flow, " ", amount, " true"))
	}
}

// TestGreatFlowsAreAsGreatAsTheRoomOfTheirCuts is about promise 4.
func TestGreatFlowsAreAsGreatAsTheRoomOfTheirCuts(t *testing.T) {
	for i, n := range append(manyNets(480), edgeNets()...) {
		from, to := someEnds(n, i/8)
		what := fmt.Sprint(n, " ", from, " ", to)
		flow, amount, ok := impl.GreatFlow(n, from, to)
		wantBool(t, "GreatFlow of "+what, ok && impl.IsFlow(n, flow, from, to), true)
		out, one := impl.FlowAmount(n, flow, from)
		into, two := impl.FlowAmount(n, flow, to)
		pushed, three := impl.PushFlow(n, from, to)
		cut, four := impl.CutOf(n, flow, from)
		room, five := impl.CutRoom(n, cut)
		wantText(t, what, fmt.Sprint(out, -into, pushed, room, one && two && three && four && five), fmt.Sprint(amount, amount, amount, amount, true))
		if n.Nodes <= 10 || i%16 == 2 {
			least, nodes := leastCut(n, from, to)
			wantText(t, "the least cut of "+what, fmt.Sprint(amount, cut), fmt.Sprint(least, nodes))
		}
	}
}

func TestCutsAndAmountsAreThoseOfTheModel(t *testing.T) {
	state := sequence(4)
	for i, n := range manyNets(480) {
		flow := someFlow(&state, n)
		from, to := someEnds(n, i/8)
		_, nodes := modelReach(modelLeftOver(n, flow), from)
		cut, ok := impl.CutOf(n, flow, from)
		wantText(t, fmt.Sprint("CutOf of ", n, flow, from), fmt.Sprint(cut, ok), fmt.Sprint(nodes, true))
		out := modelOut(n, flow)
		amount, ok := impl.FlowAmount(n, flow, to)
		wantText(t, fmt.Sprint("FlowAmount of ", n, flow, to), fmt.Sprint(amount, ok), fmt.Sprint(out[to], true))
		wantBool(t, fmt.Sprint("IsFlow of ", n, flow, from, to), impl.IsFlow(n, flow, from, to), modelBetween(out, from, to))
		set := state.below(1 << n.Nodes)
		var list []int64
		for node := range n.Nodes {
			if set>>node&1 == 1 {
				list = append(list, node)
			}
		}
		room, ok := impl.CutRoom(n, list)
		wantText(t, fmt.Sprint("CutRoom of ", n, list), fmt.Sprint(room, ok), fmt.Sprint(roomOut(n, set), true))
	}
}

func TestCheapFlowsAreThoseOfTheModel(t *testing.T) {
	state := sequence(5)
	for i, n := range manyNets(640) {
		from, to := someEnds(n, i/8)
		_, most := modelGreat(n, from, to)
		for _, amount := range []int64{0, 1, most / 2, most, most + 1, int64(state.below(int(most) + 1))} {
			if amount <= 1000000 {
				wantText(t, fmt.Sprint("CheapFlow of ", n, from, to, amount), cheapText(n, from, to, amount), modelCheap(n, from, to, amount))
			}
		}
	}
}

// TestCheapFlowsHaveNoRoundOfLoss is about promise 4.
func TestCheapFlowsHaveNoRoundOfLoss(t *testing.T) {
	found := 0
	for i, n := range manyNets(640) {
		from, to := someEnds(n, i/8)
		_, most := modelGreat(n, from, to)
		for _, amount := range []int64{1, most / 2, most} {
			flow, cost, ok := impl.CheapFlow(n, from, to, amount)
			if !ok {
				continue
			}
			found++
			what := fmt.Sprint("CheapFlow of ", n, from, to, amount)
			told, one := impl.FlowCost(n, flow)
			out, two := impl.FlowAmount(n, flow, from)
			wantText(t, what, fmt.Sprint(told, out, one, two, impl.IsFlow(n, flow, from, to)), fmt.Sprint(cost, amount, true, true, true))
			_, loss := impl.LossRound(n, flow)
			wantBool(t, what+" has a round of loss", loss, false)
		}
	}
	if found < 300 {
		t.Errorf("only %d flows were looked at", found)
	}
}

// TestCheapFlowsCostLeast looks at all flows of little nets.
func TestCheapFlowsCostLeast(t *testing.T) {
	for i, n := range manyNets(800) {
		if !isLittle(n) {
			continue
		}
		from, to := someEnds(n, i/8)
		least := map[int64]int64{}
		allFlows(n, func(flow []int64) {
			out := modelOut(n, flow)
			if amount := out[from]; modelBetween(out, from, to) && amount >= 0 {
				cost, _ := impl.FlowCost(n, flow)
				if old, has := least[amount]; !has || cost < old {
					least[amount] = cost
				}
			}
		})
		loss := least[0] < 0 // what flows in rounds alone costs less than nothing
		for amount := range int64(12) {
			want, has := least[amount]
			if loss || !has {
				want, has = 0, false
			}
			_, cost, ok := impl.CheapFlow(n, from, to, amount)
			wantText(t, fmt.Sprint("CheapFlow of ", n, from, to, amount), fmt.Sprint(cost, ok), fmt.Sprint(want, has))
		}
	}
}

func TestRoundsOfLossAreThoseOfTheModel(t *testing.T) {
	state := sequence(6)
	found := 0
	for _, n := range manyNets(960) {
		flow := someFlow(&state, n)
		what := fmt.Sprint("LossRound of ", n, flow)
		round, ok := impl.LossRound(n, flow)
		wantText(t, what, fmt.Sprint(round, ok), fmt.Sprint(modelLoss(n, flow), ok))
		longs := leastCosts(n.Nodes, modelLeftOver(n, flow))
		has := false
		for node := range longs {
			has = has || longs[node][node] < 0
		}
		wantBool(t, what, ok, has)
		if ok {
			found++
			checkRound(t, what, modelLeftOver(n, flow), round)
		}
	}
	if found < 200 || found > 800 {
		t.Errorf("%d rounds of loss", found)
	}
}

// checkRound wants different nodes, each of which is the end of an arc from the
// one before it, and costs of less than 0.
func checkRound(t *testing.T, what string, arcs []modelArc, round []int64) {
	t.Helper()
	seen, sum := map[int64]bool{}, int64(0)
	for k, node := range round {
		next := round[(k+1)%len(round)]
		cost := int64(math.MaxInt64 / 4)
		for _, a := range arcs {
			if a.from == node && a.to == next {
				cost = min(cost, a.cost)
			}
		}
		sum += cost
		wantBool(t, what+" tells a node twice", seen[node], false)
		seen[node] = true
	}
	wantBool(t, what+" costs less than 0", sum < 0, true)
}

// TestWaysOfFlowsAreThoseOfTheModel looks at all flows of little nets.
func TestWaysOfFlowsAreThoseOfTheModel(t *testing.T) {
	for i, n := range manyNets(320) {
		from, to := someEnds(n, i/8)
		great, _ := modelGreat(n, from, to)
		checkWays(t, n, great, from, to)
		if isLittle(n) {
			allFlows(n, func(flow []int64) {
				if modelBetween(modelOut(n, flow), from, to) {
					checkWays(t, n, flow, from, to)
				}
			})
		}
	}
}

func checkWays(t *testing.T, n impl.Net, flow []int64, from, to int64) {
	t.Helper()
	ways, ok := impl.WayOfFlow(n, flow, from, to)
	what := fmt.Sprint("WayOfFlow of ", n, flow, from, to)
	wantText(t, what, fmt.Sprint(ways, " ", ok), modelWays(n, flow, from, to))
	left := append([]int64(nil), flow...)
	for _, way := range ways {
		node := from
		for _, i := range way {
			wantBool(t, what, n.Arcs[i].From == node && left[i] > 0, true)
			left[i]--
			node = n.Arcs[i].To
		}
		wantBool(t, what, node == to, true)
	}
}

func TestLongsAndWidthsAreThoseOfTheModel(t *testing.T) {
	for i, n := range manyNets(480) {
		from, to := someEnds(n, i/8)
		way, wide, ok := impl.WideWay(n, from, to)
		wantText(t, fmt.Sprint("WideWay of ", n, from, to), fmt.Sprint(way, " ", wide, " ", ok), modelWide(n, from, to))
		var arcs []modelArc
		want := ""
		for k, a := range n.Arcs {
			arcs = append(arcs, modelArc{a.From, a.To, a.Room, a.Cost, k, 1})
			if a.Cost < 0 {
				want = "[] false"
			}
		}
		if want == "" {
			longs := leastCosts(n.Nodes, arcs)[from]
			for node := range longs {
				longs[node] = max(longs[node], -1)
			}
			want = fmt.Sprint(longs, " true")
		}
		wantText(t, fmt.Sprint("LeastLongs of ", n, from), longsText(n, from), want)
	}
}

// TestWideWaysAreWidest wants a way that keeps its width, and none for arcs of
// more room.
func TestWideWaysAreWidest(t *testing.T) {
	for i, n := range manyNets(480) {
		from, to := someEnds(n, i/8)
		way, wide, ok := impl.WideWay(n, from, to)
		what := fmt.Sprint("WideWay of ", n, from, to)
		node, least := from, int64(math.MaxInt64)
		for _, k := range way {
			wantBool(t, what+" is a way", n.Arcs[k].From == node, true)
			node, least = n.Arcs[k].To, min(least, n.Arcs[k].Room)
		}
		wantBool(t, what+" is one between the ends", !ok || node == to && least == wide, true)
		var wider []modelArc
		for k, a := range n.Arcs {
			if !ok || a.Room > wide {
				wider = append(wider, modelArc{a.From, a.To, 1, 0, k, 1})
			}
		}
		by, _ := modelReach(wider, from)
		_, has := by[to]
		wantBool(t, what+" is not the widest one", has, false)
	}
}
