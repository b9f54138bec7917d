package tests

import (
	"fmt"
	"math"
	"testing"

	"loop.example/g01346/impl"
)

// This file is about promise 1 for chapter 3: every function returns for all
// arguments, modifies none of them, returns equal results for equal ones, and
// zero values where it fails.

// says tells the results of a function but the last one; those of one that
// fails must be an empty list for a list, false for a bool, and 0 for a number.
func says(name string, ok bool, told ...any) outcome {
	zero := make([]any, len(told))
	for i, x := range told {
		switch x.(type) {
		case []int64:
			zero[i] = []int64(nil)
		case [][]int64:
			zero[i] = [][]int64(nil)
		case []bool:
			zero[i] = []bool(nil)
		case bool:
			zero[i] = false
		case impl.Net:
			zero[i] = impl.Net{}
		case impl.Form:
			zero[i] = impl.Form{}
		default:
			zero[i] = 0
		}
	}
	return outcome{name, fmt.Sprint(told...), fmt.Sprint(zero...), ok}
}

// netArguments are the arguments besides a net.
type netArguments struct {
	from, to, amount, workers int64
	flow, list                []int64
}

func (s netArguments) text() string { return fmt.Sprintf("%.999s", fmt.Sprintf("%+v", s)) }

func outcomesOfNet(n impl.Net, s netArguments) []outcome {
	plain, ok := impl.PlainNet(n.Nodes, n.Arcs)
	list := []outcome{
		saysBool("ValidNet", impl.ValidNet(n)), saysBool("SameNet", impl.SameNet(n, impl.Net{Nodes: n.Nodes, Arcs: append([]impl.Arc(nil), n.Arcs...)})),
		says("PlainNet", ok, plain), saysBool("IsFlow", impl.IsFlow(n, s.flow, s.from, s.to)),
	}
	add := func(name string, ok bool, told ...any) { list = append(list, says(name, ok, told...)) }
	amount, ok := impl.FlowAmount(n, s.flow, s.from)
	add("FlowAmount", ok, amount)
	cost, ok := impl.FlowCost(n, s.flow)
	add("FlowCost", ok, cost)
	great, amount, ok := impl.GreatFlow(n, s.from, s.to)
	add("GreatFlow", ok, great, amount)
	pushed, ok := impl.PushFlow(n, s.from, s.to)
	add("PushFlow", ok, pushed)
	cut, ok := impl.CutOf(n, s.flow, s.from)
	add("CutOf", ok, cut)
	room, ok := impl.CutRoom(n, s.list)
	add("CutRoom", ok, room)
	cheap, cost, ok := impl.CheapFlow(n, s.from, s.to, s.amount)
	add("CheapFlow", ok, cheap, cost)
	ways, ok := impl.WayOfFlow(n, s.flow, s.from, s.to)
	add("WayOfFlow", ok, ways)
	round, ok := impl.LossRound(n, s.flow)
	add("LossRound", ok, round)
	longs, ok := impl.LeastLongs(n, s.from)
	add("LeastLongs", ok, longs)
	way, wide, ok := impl.WideWay(n, s.from, s.to)
	add("WideWay", ok, way, wide)
	shared, ok := impl.FlowsShared(n, s.from, s.list, s.workers)
	add("FlowsShared", ok, shared)
	parents, weights, ok := impl.CutTree(n)
	add("CutTree", ok, parents, weights)
	match, ok := impl.MatchAll(n)
	add("MatchAll", ok, match)
	tree, cost, ok := impl.CheapTree(n)
	add("CheapTree", ok, tree, cost)
	trees, ok := impl.TreesIn(n)
	add("TreesIn", ok, trees)
	rooted, cost, ok := impl.RootTree(n, s.from)
	add("RootTree", ok, rooted, cost)
	return list
}

func outcomesOfPairs(left, right int64, list []int64) []outcome {
	columns, cost, ofRows, ofColumns, one := impl.BestPairs(left, list)
	match, two := impl.MatchSides(left, right, list)
	lefts, rights, three := impl.CoverSides(left, right, list)
	return []outcome{
		says("BestPairs", one, columns, cost, ofRows, ofColumns), says("MatchSides", two, match), says("CoverSides", three, lefts, rights),
	}
}

func edgeNumbersOfNets() []int64 {
	return []int64{0, 1, 2, 3, 15, 16, 17, -1, 8, 9, 1000000, 1000001, 1 << 32, 1<<32 + 1, math.MaxInt64, math.MinInt64}
}

func TestFunctionsOfNetsAlwaysReturn(t *testing.T) {
	numbers := edgeNumbersOfNets()
	state := sequence(9)
	some := func() int64 {
		if state.below(2) == 0 {
			return int64(state.below(4))
		}
		return numbers[state.below(len(numbers))]
	}
	nets := append(append(invalidNets(), edgeNets()...), manyNets(240)...)
	for _, n := range nets {
		arcs := keep(n.Arcs, arc(7, 8, 9, 10))
		kept := impl.Net{Nodes: n.Nodes, Arcs: arcs.list}
		great, _, _ := impl.GreatFlow(n, 0, 1)
		lists := [][]int64{nil, {0, 1}, {1, 2, 3}, {2, 1}, {-1}, {16}, numbersTo(17), make([]int64, 5000), {math.MinInt64, math.MaxInt64}}
		flows := append([][]int64{make([]int64, len(n.Arcs)), great, nil, {math.MaxInt64}, {1, 1}}, wrongFlows()...)
		if impl.ValidNet(n) {
			flows = append(flows, someFlow(&state, n), someFlow(&state, n))
		}
		for _, f := range flows {
			flow, list := keep(f, 77), keep(lists[state.below(len(lists))], 78)
			s := netArguments{some(), some(), some(), some(), flow.list, list.list}
			first, again := outcomesOfNet(kept, s), outcomesOfNet(kept, s)
			checkOutcomes(t, fmt.Sprintf("%.999s at %s", fmt.Sprint(n), s.text()), first, again)
			flow.is(t, "a function of nets")
			list.is(t, "a function of nets")
		}
		arcs.is(t, "a function of nets")
	}
}

func TestFunctionsOfPairsAlwaysReturn(t *testing.T) {
	lists := append(append([][]int64{nil, {0}, {0, 0}, {-1, 0}, {16, 16}, make([]int64, 96), make([]int64, 98), make([]int64, 256), make([]int64, 289), make([]int64, 5000)}, manyCosts(32)...),
		[]int64{math.MaxInt64, math.MinInt64}, []int64{math.MinInt64, 0, 0, math.MaxInt64}, []int64{1 << 32, 1 << 32})
	for _, p := range manyPairs(30) {
		lists = append(lists, p.list)
	}
	numbers := append(edgeNumbersOfNets(), 4, 5, 6, 7, 10, 11, 12, 13, 14)
	for _, all := range lists {
		list := keep(all, 77)
		for _, left := range numbers {
			for _, right := range numbers {
				first, again := outcomesOfPairs(left, right, list.list), outcomesOfPairs(left, right, list.list)
				checkOutcomes(t, fmt.Sprintf("%d, %d and %.999s", left, right, fmt.Sprint(all)), first, again)
				if left == 16 && len(all) == 256 {
					break // these are the costs of most pairs, which take longest
				}
			}
		}
		list.is(t, "a function of pairs")
	}
}

// TestInvalidNetsMakeFunctionsFail wants that for each thing that can be wrong,
// where all other arguments are right, and that none fails where nothing is.
func TestInvalidNetsMakeFunctionsFail(t *testing.T) {
	for _, n := range invalidNets() {
		s := netArguments{0, 1, 0, 1, make([]int64, len(n.Arcs)), []int64{1}}
		for _, c := range outcomesOfNet(n, s) {
			if c.name != "SameNet" && c.ok {
				t.Errorf("%s of %.99s does not fail", c.name, fmt.Sprint(n))
			}
		}
	}
	for _, n := range []impl.Net{exampleNet(), netOf(2, arc(0, 1, 1000000, 1000)), netOf(2, repeatArc(24, arc(0, 1, 1000000, 1000))...), fullNet(6)} {
		s := netArguments{0, 1, 0, 1, make([]int64, len(n.Arcs)), []int64{1}}
		for _, c := range outcomesOfNet(n, s) {
			if !c.ok && c.name != "LossRound" {
				t.Errorf("%s of %v fails", c.name, n)
			}
		}
	}
}

// TestEmptyNetsMakeFunctionsReturn wants functions to take a net without arcs.
func TestEmptyNetsMakeFunctionsReturn(t *testing.T) {
	fails := map[string]bool{"LossRound": true, "WideWay": true, "CheapTree": true, "RootTree": true}
	for _, c := range outcomesOfNet(netOf(4), netArguments{0, 1, 0, 1, nil, nil}) {
		wantBool(t, c.name+" of a net without arcs", c.ok, !fails[c.name])
	}
}

// told is one slice of the results of a call.
type told struct {
	name string
	list []int64
}

// allTold calls all functions that return slices of integers; list is a flow of
// loss, and nodes to which there are flows from 2.
func allTold(n, loss impl.Net, flow, list, pairs, costs []int64) []told {
	great, _, _ := impl.GreatFlow(n, 0, 2)
	cut, _ := impl.CutOf(n, flow, 0)
	cheap, _, _ := impl.CheapFlow(n, 0, 2, 2)
	nothing, _, _ := impl.CheapFlow(n, 0, 2, 0)
	ways, _ := impl.WayOfFlow(n, flow, 0, 2)
	round, _ := impl.LossRound(loss, list)
	longs, _ := impl.LeastLongs(n, 0)
	way, _, _ := impl.WideWay(n, 0, 2)
	shared, _ := impl.FlowsShared(n, 2, list, 2)
	parents, weights, _ := impl.CutTree(n)
	columns, _, ofRows, ofColumns, _ := impl.BestPairs(2, costs)
	match, _ := impl.MatchSides(3, 3, pairs)
	lefts, rights, _ := impl.CoverSides(3, 3, pairs)
	all, _ := impl.MatchAll(n)
	tree, _, _ := impl.CheapTree(n)
	rooted, _, _ := impl.RootTree(n, 0)
	slices := []told{
		{"GreatFlow", great}, {"CutOf", cut}, {"CheapFlow", cheap}, {"CheapFlow of nothing", nothing}, {"LossRound", round}, {"LeastLongs", longs},
		{"WideWay", way}, {"FlowsShared", shared}, {"CutTree, parents", parents}, {"CutTree, weights", weights}, {"BestPairs", columns},
		{"BestPairs, rows", ofRows}, {"BestPairs, columns", ofColumns}, {"MatchSides", match}, {"CoverSides, left", lefts}, {"CoverSides, right", rights},
		{"MatchAll", all}, {"CheapTree", tree}, {"RootTree", rooted},
	}
	for _, way := range ways {
		slices = append(slices, told{"WayOfFlow", way})
	}
	return slices
}

// wantUnshared overwrites one slice of the results after another, and the room
// behind it, and wants the arguments and all others unchanged.
func wantUnshared(t *testing.T, all []told, arguments func() string) {
	t.Helper()
	was := arguments()
	for i := range all {
		if len(all[i].list) == 0 {
			t.Errorf("%s has nothing to overwrite", all[i].name)
		}
		others := func() string { return fmt.Sprint(all[:i], all[i+1:]) }
		before := others()
		overwrite(all[i].list, 99)
		wantText(t, all[i].name, others(), before)
	}
	wantText(t, "the arguments", arguments(), was)
}

func TestResultsOfNetsShareNothing(t *testing.T) {
	n := exampleNet()
	loss := netOf(2, arc(0, 1, 1, -3), arc(1, 0, 1, 2))
	flow, list, pairs, costs := []int64{2, 2, 1}, []int64{0, 0}, []int64{0, 0, 0, 1, 1, 2, 2, 2}, []int64{1, 2, 2, 4}
	all := allTold(n, loss, flow, list, pairs, costs)
	arguments := func() string { return fmt.Sprint(n, loss, flow, list, pairs, costs) }
	was := arguments()
	if len(all) != 22 {
		t.Errorf("%d slices", len(all))
	}
	wantUnshared(t, all, arguments)
	plain, _ := impl.PlainNet(n.Nodes, n.Arcs)
	overwrite(plain.Arcs, arc(9, 9, 9, 9))
	wantText(t, "PlainNet", arguments(), was)
	fresh := fmt.Sprint(allTold(n, loss, flow, list, pairs, costs))
	wantText(t, "results of the same again", fresh, fmt.Sprint(allTold(n, loss, flow, list, pairs, costs)))
}
