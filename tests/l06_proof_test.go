package tests

import (
	"fmt"
	"math"
	"testing"

	"loop.example/g01346/impl"
)

// This file is about promise 7: orders are none worse than others, and rules
// stay within their ratios. It looks at all orders of few things, at all sets of
// few spans, and at all that can go out of a room.

// leastOfOrders returns the least weighted sum of ends, the least time by which
// one is late, the least count of late jobs, the least sum that LeastLate tells,
// and the least time at which all have ended if each one waits until it is
// ready, of all orders.
func leastOfOrders(jobs []impl.Job) (weighted, most, count, sum, ended int64) {
	weighted, most, count, sum, ended = math.MaxInt64, math.MaxInt64, math.MaxInt64, math.MaxInt64, math.MaxInt64
	allOrders(len(jobs), func(order []int64) {
		w, m, c := modelSums(jobs, order)
		weighted, most, count, sum = min(weighted, w), min(most, m), min(count, c), min(sum, lateSum(jobs, order))
		end := int64(0)
		for _, i := range order {
			end = max(end, jobs[i].Ready) + jobs[i].Long
		}
		ended = min(ended, end)
	})
	return weighted, most, count, sum, ended
}

func TestNoOrderIsBetter(t *testing.T) {
	for _, jobs := range manyJobs(540, 6) {
		what := fmt.Sprint(" of ", jobs)
		weighted, most, count, sum, ended := leastOfOrders(jobs)
		smith, _ := impl.SmithOrder(jobs)
		wantText(t, "WeightedEnds of SmithOrder"+what, numberText(impl.WeightedEnds(jobs, smith)), fmt.Sprint(weighted, " true"))
		due, _ := impl.DueOrder(jobs)
		wantText(t, "MostLate of DueOrder"+what, numberText(impl.MostLate(jobs, due)), fmt.Sprint(most, " true"))
		ontime, kept, _ := impl.OnTimeOrder(jobs)
		wantText(t, "CountLate of OnTimeOrder"+what, numberText(impl.CountLate(jobs, ontime)), fmt.Sprint(count, " true"))
		wantText(t, "those kept by OnTimeOrder"+what, fmt.Sprint(kept), fmt.Sprint(int64(len(jobs))-count))
		for _, i := range ontime[:kept] {
			wantBool(t, fmt.Sprint("OnTimeOrder", what, " keeps ", i), endIn(jobs, ontime, i) <= jobs[i].Due, true)
		}
		least, cost, _ := impl.LeastLate(jobs)
		wantText(t, "LeastLate"+what, fmt.Sprint(cost, lateSum(jobs, least)), fmt.Sprint(sum, sum))
		// The jobs that wait until they are ready reach the bound in the best order.
		wantText(t, "HeadsBound"+what, numberText(impl.HeadsBound(jobs)), fmt.Sprint(ended, " true"))
	}
}

func TestMachinesStayWithinTheirRatios(t *testing.T) {
	worse := 0
	for n, jobs := range append(manyJobs(1200, 9), longJobs(5, 5, 4, 4, 3, 3, 3), longJobs(1, 1, 1, 1, 1, 1, 3)) {
		m := int64(1 + n/54%8)
		if n >= 1200 {
			m = 3
		}
		what := fmt.Sprint(" of ", jobs, " on ", m)
		least, _ := impl.LeastSpan(jobs, m)
		sum, long := int64(0), int64(0)
		for _, j := range jobs {
			sum, long = sum+j.Long, max(long, j.Long)
		}
		wantBool(t, "LeastSpan is not too little"+what, least >= long && least*m >= sum, true)
		wantText(t, "LeastSpan"+what, fmt.Sprint(least), fmt.Sprint(modelSpan(jobs, m)))
		_, list, _ := impl.ListPlan(jobs, m)
		wantBool(t, fmt.Sprint("ListPlan ", list, what, " against ", least), list >= least && m*list <= (2*m-1)*least, true)
		_, first, _ := impl.LongFirst(jobs, m)
		wantBool(t, fmt.Sprint("LongFirst ", first, what, " against ", least), first >= least && 3*m*first <= (4*m-1)*least, true)
		if first > least {
			worse++
		}
	}
	if worse < 20 {
		t.Errorf("LongFirst is not the best %d times", worse)
	}
	// Both ratios are reached.
	_, first, _ := impl.LongFirst(longJobs(5, 5, 4, 4, 3, 3, 3), 3)
	_, list, _ := impl.ListPlan(longJobs(1, 1, 1, 1, 1, 1, 3), 3)
	wantText(t, "the worst ones", fmt.Sprint(first, list), "11 5")
}

func TestNoOrderOfStagesIsBetter(t *testing.T) {
	for _, jobs := range manyJobs(540, 6) {
		first, second := stageLongs(jobs)
		least := int64(math.MaxInt64)
		allOrders(len(jobs), func(order []int64) { least = min(least, stagesEnd(first, second, order)) })
		order, end, _ := impl.TwoStages(first, second)
		wantText(t, fmt.Sprint("TwoStages of ", first, " and ", second), fmt.Sprint(end, stagesEnd(first, second, order)), fmt.Sprint(least, least))
	}
}

func TestNoSpansAreBetter(t *testing.T) {
	for _, spans := range manySpans(900, 11) {
		what := fmt.Sprint(" of ", spans)
		gain, most := greatestGain(spans)
		set, _ := impl.MostSpans(spans)
		best, sum, _ := impl.BestSpans(spans)
		wantText(t, "MostSpans"+what, fmt.Sprint(len(set)), fmt.Sprint(most))
		wantText(t, "BestSpans"+what, fmt.Sprint(sum), fmt.Sprint(gain))
		told := int64(0)
		for _, i := range best {
			told += spans[i].Gain
		}
		wantText(t, "gains of BestSpans"+what, fmt.Sprint(told), fmt.Sprint(gain))
		for _, list := range [][]int64{set, best} {
			for n := range list {
				for _, k := range list[:n] {
					wantBool(t, fmt.Sprint("two of ", list, what), list[n] > k && !spansMeet(spans[list[n]], spans[k]), true)
				}
			}
		}
	}
}

// TestNoFewerRoomsAreEnough wants as many rooms as there are spans at one time,
// and no two spans that meet in one of them.
func TestNoFewerRoomsAreEnough(t *testing.T) {
	for _, spans := range manySpans(1200, 64) {
		rooms, count, _ := impl.RoomsOf(spans)
		most := int64(0)
		for i, s := range spans {
			atOnce := int64(0)
			for k, other := range spans {
				if other.From <= s.From && s.From < other.To {
					atOnce++
				}
				if i != k && rooms[i] == rooms[k] && spansMeet(s, other) {
					t.Errorf("%d and %d of %v meet in the room %d", i, k, spans, rooms[i])
				}
			}
			most = max(most, atOnce)
		}
		wantText(t, fmt.Sprint("RoomsOf ", spans), fmt.Sprint(count), fmt.Sprint(most))
	}
}

func TestRentsStayWithinTheirRatios(t *testing.T) {
	for buy := range int64(80) {
		for days := range int64(200) {
			best := min(days, buy)
			cost, ok := impl.RentCost(days, buy, buy)
			wantBool(t, fmt.Sprint("twice the best of ", days, " and ", buy), ok && cost <= 2*best, true)
			if buy > 0 {
				less, _ := impl.RentCost(days, buy, buy-1)
				wantBool(t, fmt.Sprint("less than twice the best of ", days, " and ", buy), buy*less <= (2*buy-1)*best, true)
			}
			for _, limit := range []int64{0, 1, buy / 2, 2 * buy} {
				cost, _ := impl.RentCost(days, buy, limit)
				wantBool(t, fmt.Sprint("no better than the best of ", days, " and ", buy), cost >= best, true)
			}
		}
	}
}

// leastFaults looks at all that can go out.
func leastFaults(asks []int64, room int64) int64 {
	type place struct {
		now    int
		inside uint64
	}
	known := map[place]int64{}
	var step func(p place, held int64) int64
	step = func(p place, held int64) int64 {
		if p.now == len(asks) {
			return 0
		}
		if least, ok := known[p]; ok {
			return least
		}
		digit := uint64(1) << asks[p.now]
		var least int64
		switch {
		case p.inside&digit != 0:
			least = step(place{p.now + 1, p.inside}, held)
		case held < room:
			least = 1 + step(place{p.now + 1, p.inside | digit}, held+1)
		default:
			least = math.MaxInt64
			for out := uint64(1); out != 0; out <<= 1 {
				if p.inside&out != 0 {
					least = min(least, 1+step(place{p.now + 1, p.inside&^out | digit}, held))
				}
			}
		}
		known[p] = least
		return least
	}
	return step(place{}, 0)
}

func TestFaultsStayWithinTheirRatios(t *testing.T) {
	worst := 0
	for n, asks := range manyAsks(900, 30) {
		room := int64(1 + n/13%5)
		what := fmt.Sprint(" of ", asks, " in a room of ", room)
		least := leastFaults(asks, room)
		var faults, more [3]int64
		for rule := range int64(3) {
			faults[rule], _ = impl.FaultsOf(asks, room, rule)
			more[rule], _ = impl.FaultsOf(asks, room+1, rule)
		}
		wantText(t, "faults by the rule 2"+what, fmt.Sprint(faults[2]), fmt.Sprint(least))
		for rule := range 2 {
			wantBool(t, fmt.Sprint(faults[rule], " faults by the rule ", rule, what, ", and ", least), faults[rule] >= least && faults[rule] <= room*least, true)
		}
		wantBool(t, fmt.Sprint("fewer faults in a greater room", what), more[1] <= faults[1] && more[2] <= faults[2], true)
		if faults[1] > least {
			worst++
		}
	}
	if worst < 100 {
		t.Errorf("the rule 1 is not the best %d times", worst)
	}
	// The rules 0 and 1 reach the ratio where what comes next is always what went out.
	around := append(append(twice(4), twice(4)...), twice(4)...)
	wantText(t, "faults around", faultsText(around, 3), "24 true 24 true 10 true ")
	wantText(t, "faults around, looked for", fmt.Sprint(leastFaults(around, 3)), "10")
}

// TestFrontCostsStayWithinTheirRatio compares with all lists that stay as they
// are: with one that begins with as many pairs turned around, the front costs at
// most twice as much, and these pairs, less one for each ask.
func TestFrontCostsStayWithinTheirRatio(t *testing.T) {
	for i, asks := range manyAsks(400, 20) {
		n := int64(0)
		for _, ask := range asks {
			n = max(n, ask+1)
		}
		if n > 6 {
			continue
		}
		cost, _, _ := impl.FrontCost(asks, n)
		allOrders(int(n), func(list []int64) {
			places, turned, stays := make([]int64, n), int64(0), int64(0)
			for place, one := range list {
				places[one] = int64(place) + 1
				for _, before := range list[:place] {
					if before > one {
						turned++
					}
				}
			}
			for _, ask := range asks {
				stays += places[ask]
			}
			if cost > 2*stays+turned-int64(len(asks)) {
				t.Errorf("FrontCost %d of the asks %d, %v, against %d of %v", cost, i, asks, stays, list)
			}
		})
	}
}

// TestPicksStayWithinTheirRatio looks at all orders of different numbers: in one
// of e of them or more, the greatest one is picked with the best look.
func TestPicksStayWithinTheirRatio(t *testing.T) {
	for n := 1; n <= 7; n++ {
		all, best := 0, 0
		picked := make([]int, n)
		allOrders(n, func(list []int64) {
			all++
			for look := range n {
				i, _ := impl.PickAfter(list, int64(look))
				if list[i] == int64(n-1) {
					picked[look]++
				}
			}
		})
		for look, count := range picked {
			part := 1 / float64(n)
			if look > 0 {
				sum := 0.0
				for k := look; k < n; k++ {
					sum += 1 / float64(k)
				}
				part *= float64(look) * sum
			}
			wantText(t, fmt.Sprint("picks of ", n, " with look ", look), fmt.Sprint(count), fmt.Sprint(math.Round(part*float64(all))))
			best = max(best, count)
		}
		wantBool(t, fmt.Sprint(best, " picks of ", all), float64(best)*math.E >= float64(all), true)
	}
}

// TestSimplexesAreNearest wants sums of 1, nearly, and from the list to the
// result no way that another point with the sum 1 lies behind.
func TestSimplexesAreNearest(t *testing.T) {
	state := sequence(37)
	for n, list := range manyNumbers(1500) {
		if n%5 == 2 || n%5 == 4 {
			continue
		}
		nearest, ok := impl.ToSimplex(list)
		sum := 0.0
		for _, x := range nearest {
			sum += float64(x)
			ok = ok && x >= 0
		}
		wantBool(t, fmt.Sprint("sum ", sum, " of ToSimplex of ", list), ok && math.Abs(sum-1) < 1e-4, true)
		for range 20 {
			other, all := make([]float64, len(list)), 0.0
			for i := range other {
				other[i] = math.Pow(float64(state.below(1000))/1000, float64(1+state.below(9)))
				all += other[i]
			}
			if all == 0 {
				continue
			}
			behind := 0.0
			for i, x := range list {
				p := float64(nearest[i])
				behind += (float64(x) - p) * (other[i]/all - p)
			}
			wantBool(t, fmt.Sprint("behind ToSimplex of ", list, ": ", behind), behind < 1e-3, true)
		}
	}
}

// shrunkWorth is half of the sum of the squares of what is left, plus by times
// the sum of absolute values, in 64-bit numbers.
func shrunkWorth(r impl.Rows, x []float32, by float32) float64 {
	worth := 0.0
	for i, bound := range r.Bounds {
		left := float64(bound)
		for k, y := range x {
			left -= float64(r.Numbers[i*len(x)+k]) * float64(y)
		}
		worth += left * left / 2
	}
	for _, y := range x {
		worth += float64(by) * math.Abs(float64(y))
	}
	return worth
}

// TestStepsMakeTheirSumSmaller takes steps that are not too great.
func TestStepsMakeTheirSumSmaller(t *testing.T) {
	state := sequence(38)
	for range 200 {
		vars, rows := 1+state.below(8), 1+state.below(8)
		r := impl.Rows{Vars: int64(vars), Numbers: make([]float32, vars*rows), Bounds: make([]float32, rows), Gains: make([]float32, vars)}
		squares := float32(1)
		for i := range r.Numbers {
			r.Numbers[i] = float32(state.below(9)-4) / 2
			squares += r.Numbers[i] * r.Numbers[i]
		}
		for i := range r.Bounds {
			r.Bounds[i] = float32(state.below(20)) / 2
		}
		by := float32(state.below(5)) / 2
		last := shrunkWorth(r, make([]float32, vars), by)
		for rounds := int64(1); rounds <= 200; rounds += 1 + rounds/3 {
			x, ok := impl.ShrinkSteps(r, 1/squares, by, rounds)
			worth := shrunkWorth(r, x, by)
			wantBool(t, fmt.Sprint("ShrinkSteps ", rounds, " of ", r, " by ", by, " tells ", worth, ", before ", last), ok && worth <= last+1e-3, true)
			last = worth
		}
	}
	// With one row and one number, the best x is known.
	for _, c := range []struct{ times, bound, by, want float64 }{{1, 4, 1, 3}, {2, 6, 2, 2.5}, {0.5, 9, 6, 0}, {-3, 5, 3, -4.0 / 3}} {
		x, _ := impl.ShrinkSteps(oneVar(float32(c.times), float32(c.bound)), float32(0.5/(c.times*c.times)), float32(c.by), 200)
		wantBool(t, fmt.Sprint("ShrinkSteps of ", c, ": ", x), math.Abs(float64(x[0])-c.want) < 1e-4, true)
	}
}
