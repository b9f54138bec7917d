package tests

import (
	"fmt"
	"math"
	"testing"

	"loop.example/g01346/impl"
)

// This file is about promise 1 for chapter 6: every function returns for all
// arguments, modifies none of them, returns equal results for equal ones, and
// zero values where it fails.

func outcomesOfJobs(jobs []impl.Job, order []int64, machines int64) []outcome {
	list := []outcome{saysBool("AreJobs", impl.AreJobs(jobs))}
	add := func(name string, ok bool, told ...any) { list = append(list, says(name, ok, told...)) }
	ends, ok := impl.EndsOf(jobs, order)
	add("EndsOf", ok, ends)
	weighted, ok := impl.WeightedEnds(jobs, order)
	add("WeightedEnds", ok, weighted)
	most, ok := impl.MostLate(jobs, order)
	add("MostLate", ok, most)
	count, ok := impl.CountLate(jobs, order)
	add("CountLate", ok, count)
	due, ok := impl.DueOrder(jobs)
	add("DueOrder", ok, due)
	smith, ok := impl.SmithOrder(jobs)
	add("SmithOrder", ok, smith)
	ontime, kept, ok := impl.OnTimeOrder(jobs)
	add("OnTimeOrder", ok, ontime, kept)
	least, cost, ok := impl.LeastLate(jobs)
	add("LeastLate", ok, least, cost)
	heads, ok := impl.HeadsBound(jobs)
	add("HeadsBound", ok, heads)
	plan, end, ok := impl.ListPlan(jobs, machines)
	add("ListPlan", ok, plan, end)
	first, end, ok := impl.LongFirst(jobs, machines)
	add("LongFirst", ok, first, end)
	span, ok := impl.LeastSpan(jobs, machines)
	add("LeastSpan", ok, span)
	return list
}

func outcomesOfSpans(spans []impl.Span) []outcome {
	most, one := impl.MostSpans(spans)
	best, gain, two := impl.BestSpans(spans)
	rooms, count, three := impl.RoomsOf(spans)
	return []outcome{saysBool("AreSpans", impl.AreSpans(spans)), says("MostSpans", one, most), says("BestSpans", two, best, gain), says("RoomsOf", three, rooms, count)}
}

// outcomesOfRules are those of the functions that take lists of integers, and
// integers.
func outcomesOfRules(a, b []int64, m, n, k int64) []outcome {
	stages, end, one := impl.TwoStages(a, b)
	rent, two := impl.RentCost(m, n, k)
	faults, three := impl.FaultsOf(a, m, n)
	cost, list, four := impl.FrontCost(a, m)
	pick, five := impl.PickAfter(a, m)
	return []outcome{says("TwoStages", one, stages, end), says("RentCost", two, rent), says("FaultsOf", three, faults), says("FrontCost", four, cost, list), says("PickAfter", five, pick)}
}

func outcomesOfShrinking(list []float32, r impl.Rows, step, by float32, rounds int64) []outcome {
	shrunk, one := impl.ShrinkList(list, by)
	simplex, two := impl.ToSimplex(list)
	steps, three := impl.ShrinkSteps(r, step, by, rounds)
	return []outcome{saysList("ShrinkList", shrunk, one), saysList("ToSimplex", simplex, two), saysList("ShrinkSteps", steps, three)}
}

// edgeNumbersOfJobs are integers at limits, and one beyond them.
func edgeNumbersOfJobs() []int64 {
	return []int64{
		0, 1, 2, 3, 7, 8, 9, 12, 13, 15, 16, 17, 63, 64, 65, 199, 200, 201, 999, 1000, 1001, 99999, 100000, 100001,
		-1, -2, -1000, 1 << 32, 1<<32 + 1, math.MaxInt64, math.MinInt64,
	}
}

// edgeListsOfJobs are lists of all kinds, those of orders, asks and Longs among
// them.
func edgeListsOfJobs() [][]int64 {
	lists := append(append(wrongOrders(), wrongAsks()...), ints(0), ints(1, 0), ints(0, 1, 2), beladyAsks(), numbersTo(64), backwards(12), repeat(12, int64(1000)))
	for _, n := range edgeNumbersOfJobs() {
		lists = append(lists, ints(n), ints(1, n), ints(n, 1), ints(n, n, n))
	}
	return lists
}

func TestFunctionsOfJobsAlwaysReturn(t *testing.T) {
	state := sequence(40)
	lists, numbers := edgeListsOfJobs(), edgeNumbersOfJobs()
	for _, jobs := range append(append(rightJobs(), wrongJobs()...), manyJobs(500, 12)...) {
		k := keep(jobs, jobOf(77, 77, 77, 77))
		for range 3 {
			order := keep(lists[state.below(len(lists))], 78)
			machines := numbers[state.below(len(numbers))]
			if state.below(3) > 0 && len(jobs) < 100 {
				order, machines = keep(someTour(&state, len(jobs)), 78), int64(1+state.below(8))
			}
			first, again := outcomesOfJobs(k.list, order.list, machines), outcomesOfJobs(k.list, order.list, machines)
			checkOutcomes(t, fmt.Sprintf("%.300s, %.99s, %d", fmt.Sprint(jobs), fmt.Sprint(order.list), machines), first, again)
			order.is(t, "a function of jobs")
		}
		k.is(t, "a function of jobs")
	}
}

func TestFunctionsOfSpansAlwaysReturn(t *testing.T) {
	for _, spans := range append(append(rightSpans(), wrongSpans()...), manySpans(700, 64)...) {
		k := keep(spans, span(77, 77, 77))
		first, again := outcomesOfSpans(k.list), outcomesOfSpans(k.list)
		checkOutcomes(t, fmt.Sprintf("%.300s", fmt.Sprint(spans)), first, again)
		k.is(t, "a function of spans")
	}
}

func TestFunctionsOfRulesAlwaysReturn(t *testing.T) {
	state := sequence(41)
	lists, numbers := append(edgeListsOfJobs(), manyAsks(150, 64)...), edgeNumbersOfJobs()
	some := func() int64 { return numbers[state.below(len(numbers))] }
	for _, list := range lists {
		a := keep(list, 77)
		for range 12 {
			b := keep(lists[state.below(len(lists))], 78)
			if state.below(2) == 0 {
				b = keep(list, 78)
			}
			m, n, k := some(), some(), some()
			if state.below(2) == 0 {
				m, n = int64(1+state.below(16)), int64(state.below(3))
			}
			first, again := outcomesOfRules(a.list, b.list, m, n, k), outcomesOfRules(a.list, b.list, m, n, k)
			checkOutcomes(t, fmt.Sprintf("%.99s, %.99s, %d, %d, %d", fmt.Sprint(list), fmt.Sprint(b.list), m, n, k), first, again)
			b.is(t, "a function of rules")
		}
		a.is(t, "a function of rules")
	}
}

func TestFunctionsOfShrinkingAlwaysReturn(t *testing.T) {
	state := sequence(42)
	numbers, rounds := edgeNumbers(), edgeNumbersOfJobs()
	lists := append(append(wrongNumbers(), manyNumbers(300)...), numbers, numbers[:20], repeat(64, num(bitsMinusZero)), repeat(64, num(bitsMost)), repeat(64, -num(bitsMost)))
	rows := edgeRows()
	for i, x := range lists {
		list := keep(x, 77)
		r := rows[i%len(rows)]
		all, bounds, gains := keep(r.Numbers, 78), keep(r.Bounds, 79), keep(r.Gains, 80)
		same := impl.Rows{Vars: r.Vars, Numbers: all.list, Bounds: bounds.list, Gains: gains.list}
		for range 8 {
			step, by, times := numbers[state.below(len(numbers))], numbers[state.below(len(numbers))], rounds[state.below(len(rounds))]
			if state.below(2) == 0 {
				step, by, times = 0.125, float32(state.below(3)), int64(state.below(9))
			}
			first, again := outcomesOfShrinking(list.list, same, step, by, times), outcomesOfShrinking(list.list, same, step, by, times)
			checkOutcomes(t, fmt.Sprintf("%.99s, %.99s, %s, %s, %d", hexList(x), rowsText(r), hex(step), hex(by), times), first, again)
		}
		for _, k := range []kept[float32]{list, all, bounds, gains} {
			k.is(t, "a function of shrinking")
		}
	}
}

// TestAllFunctionsOfChapter6Succeed wants that none fails where all arguments
// are as they must be, with numbers at the limits.
func TestAllFunctionsOfChapter6Succeed(t *testing.T) {
	for _, jobs := range [][]impl.Job{{edgeJob()}, {jobOf(1, 0, 0, 0)}, repeat(9, edgeJob()), plainJobs(1, 0, 0, 1000, 100000, 1000)} {
		for _, machines := range []int64{1, 8} {
			for _, o := range outcomesOfJobs(jobs, numbersTo(int64(len(jobs))), machines) {
				wantBool(t, fmt.Sprint(o.name, " of ", jobs, " on ", machines), o.ok, true)
			}
		}
	}
	for _, spans := range rightSpans() {
		for _, o := range outcomesOfSpans(spans) {
			wantBool(t, fmt.Sprint(o.name, " of ", spans), o.ok, true)
		}
	}
	for _, c := range []struct {
		list    []int64
		m, n, k int64
	}{{ints(1), 2, 0, 0}, {repeat(12, int64(1)), 2, 2, 100000}, {ints(1, 2), 16, 2, 100000}} {
		for _, o := range outcomesOfRules(c.list, c.list, c.m, c.n, c.k) {
			wantBool(t, fmt.Sprint(o.name, " of ", c), o.ok, o.name != "PickAfter" || c.m < int64(len(c.list)))
		}
	}
	for _, list := range [][]float32{{1}, {0}, repeat(64, float32(-2)), {num(bitsLeast), num(bitsMinusZero)}} {
		for _, o := range outcomesOfShrinking(list, exampleRows(), 0.125, num(bitsMost), 200) {
			wantBool(t, fmt.Sprint(o.name, " of ", list), o.ok, true)
		}
	}
}

// TestInvalidArgumentsMakeFunctionsOfChapter6Fail wants that for each list in
// which one thing is wrong.
func TestInvalidArgumentsMakeFunctionsOfChapter6Fail(t *testing.T) {
	for _, jobs := range wrongJobs() {
		for _, o := range outcomesOfJobs(jobs, numbersTo(int64(len(jobs))), 1) {
			wantBool(t, fmt.Sprintf("%s of %.99s", o.name, fmt.Sprint(jobs)), o.ok, false)
		}
	}
	for _, spans := range wrongSpans() {
		for _, o := range outcomesOfSpans(spans) {
			wantBool(t, fmt.Sprintf("%s of %.99s", o.name, fmt.Sprint(spans)), o.ok, false)
		}
	}
}

// allToldOfJobs calls all functions of chapter 6 that return slices of integers.
func allToldOfJobs(jobs []impl.Job, order, first, second []int64, spans []impl.Span, asks []int64) []told {
	ends, _ := impl.EndsOf(jobs, order)
	due, _ := impl.DueOrder(jobs)
	smith, _ := impl.SmithOrder(jobs)
	ontime, _, _ := impl.OnTimeOrder(jobs)
	least, _, _ := impl.LeastLate(jobs)
	plan, _, _ := impl.ListPlan(jobs, 2)
	long, _, _ := impl.LongFirst(jobs, 2)
	stages, _, _ := impl.TwoStages(first, second)
	most, _ := impl.MostSpans(spans)
	best, _, _ := impl.BestSpans(spans)
	rooms, _, _ := impl.RoomsOf(spans)
	_, list, _ := impl.FrontCost(asks, 3)
	_, same, _ := impl.FrontCost(ints(0), 3)
	return []told{
		{"EndsOf", ends}, {"DueOrder", due}, {"SmithOrder", smith}, {"OnTimeOrder", ontime}, {"LeastLate", least}, {"ListPlan", plan}, {"LongFirst", long},
		{"TwoStages", stages}, {"MostSpans", most}, {"BestSpans", best}, {"RoomsOf", rooms}, {"FrontCost", list}, {"FrontCost, unchanged", same},
	}
}

func TestResultsOfChapter6ShareNothing(t *testing.T) {
	jobs, order, first, second := plainJobs(3, 3, 1, 1, 3, 2, 1, 4, 3), ints(2, 0, 1), ints(3, 1), ints(1, 2)
	spans, asks := spansOf(0, 2, 1, 2, 3, 1, 0, 3, 5), ints(2, 2, 0)
	call := func() []told { return allToldOfJobs(jobs, order, first, second, spans, asks) }
	all := call()
	arguments := func() string { return fmt.Sprint(jobs, order, first, second, spans, asks) }
	was := fmt.Sprint(all)
	wantUnshared(t, all, arguments)
	wantText(t, "results of the same again", fmt.Sprint(call()), was)
}

func TestShrunkListsShareNothing(t *testing.T) {
	list, r := []float32{0.5, 0.25, 0.25}, exampleRows()
	arguments := func() string { return hexList(list) + rowsText(r) }
	was := arguments()
	shrunk, _ := impl.ShrinkList(list, 0)
	simplex, _ := impl.ToSimplex(list)
	steps, _ := impl.ShrinkSteps(r, 0.25, 0, 1)
	none, _ := impl.ShrinkSteps(r, 0.25, 0, 0)
	all := [][]float32{shrunk, simplex, steps, none}
	for i := range all {
		wantBool(t, "there is something to overwrite", len(all[i]) > 0, true)
		before := fmt.Sprint(all[:i], all[i+1:])
		overwrite(all[i], 99)
		wantText(t, "other lists", fmt.Sprint(all[:i], all[i+1:]), before)
		wantText(t, "the arguments", arguments(), was)
	}
	wantText(t, "no rounds again", stepsText(r, 0.25, 0, 0), floats(0, 0))
}
