package tests

import (
	"fmt"
	"testing"

	"loop.example/g01346/impl"
)

// This file holds a model of chapter 6 that is written apart from the program,
// straight from the document's text, and looks at all orders and all machines
// of few jobs.

// manyJobs returns lists of at most so many jobs, with few different numbers in
// most of them, so that many are equal; some have numbers of all sizes.
func manyJobs(count, most int) [][]impl.Job {
	state := sequence(31)
	var list [][]impl.Job
	for i := range count {
		kinds := []struct{ long, due, weight, ready int }{
			{3, 12, 3, 8}, {5, 20, 2, 20}, {2, 3, 1, 2}, {1000, 6000, 1001, 5000}, {9, 9, 9, 40}, {4, 25, 5, 1},
		}
		k := kinds[i%len(kinds)]
		jobs := make([]impl.Job, 1+i/len(kinds)%most)
		for n := range jobs {
			jobs[n] = jobOf(int64(1+state.below(k.long)), int64(state.below(k.due)), int64(state.below(k.weight)), int64(state.below(k.ready)))
		}
		list = append(list, jobs)
	}
	return list
}

// pickedOrder takes, again and again, the first one of those that are left that
// no other one comes before.
func pickedOrder(n int, before func(i, j int64) bool) []int64 {
	var order []int64
	for taken := map[int64]bool{}; len(order) < n; {
		best := int64(-1)
		for i := range int64(n) {
			if !taken[i] && (best < 0 || before(i, best)) {
				best = i
			}
		}
		taken[best] = true
		order = append(order, best)
	}
	return order
}

// endIn returns when a job ends in an order.
func endIn(jobs []impl.Job, order []int64, job int64) int64 {
	end := int64(0)
	for _, i := range order {
		end += jobs[i].Long
		if i == job {
			break
		}
	}
	return end
}

// lateSum is what LeastLate makes least.
func lateSum(jobs []impl.Job, order []int64) int64 {
	sum := int64(0)
	for i, j := range jobs {
		if end := endIn(jobs, order, int64(i)); end > j.Due {
			sum += j.Weight * (end - j.Due)
		}
	}
	return sum
}

func modelSums(jobs []impl.Job, order []int64) (weighted, most, count int64) {
	for n, i := range order {
		end := endIn(jobs, order, i)
		late := end - jobs[i].Due
		weighted += jobs[i].Weight * end
		if n == 0 || late > most {
			most = late
		}
		if late > 0 {
			count++
		}
	}
	return weighted, most, count
}

func modelDue(jobs []impl.Job) []int64 {
	return pickedOrder(len(jobs), func(i, j int64) bool { return jobs[i].Due < jobs[j].Due })
}

func modelSmith(jobs []impl.Job) []int64 {
	return pickedOrder(len(jobs), func(i, j int64) bool { return jobs[i].Weight*jobs[j].Long > jobs[j].Weight*jobs[i].Long })
}

func modelOnTime(jobs []impl.Job) string {
	var kept, away []int64
	for _, i := range modelDue(jobs) {
		kept = append(kept, i)
		if endIn(jobs, kept, i) <= jobs[i].Due {
			continue
		}
		longest := 0
		for n := range kept {
			if jobs[kept[n]].Long > jobs[kept[longest]].Long {
				longest = n
			}
		}
		away = append(away, kept[longest])
		kept = append(kept[:longest:longest], kept[longest+1:]...)
	}
	return fmt.Sprint(append(append([]int64{}, kept...), away...), " ", len(kept), " true")
}

// allOrders visits all orders of n things, those whose last one is least first,
// then those whose last but one is, and so on.
func allOrders(n int, visit func(order []int64)) {
	order, taken := make([]int64, n), make([]bool, n)
	var step func(place int)
	step = func(place int) {
		if place < 0 {
			visit(order)
			return
		}
		for i := range taken {
			if !taken[i] {
				taken[i], order[place] = true, int64(i)
				step(place - 1)
				taken[i] = false
			}
		}
	}
	step(n - 1)
}

func modelLeastLate(jobs []impl.Job) string {
	least, best := int64(-1), ""
	allOrders(len(jobs), func(order []int64) {
		if sum := lateSum(jobs, order); least < 0 || sum < least {
			least, best = sum, fmt.Sprint(order, " ", sum, " true")
		}
	})
	return best
}

func TestOrdersAreThoseOfTheModel(t *testing.T) {
	for _, jobs := range manyJobs(3000, 12) {
		what := fmt.Sprint(" of ", jobs)
		wantText(t, "DueOrder"+what, listText(impl.DueOrder(jobs)), fmt.Sprint(modelDue(jobs), " true"))
		wantText(t, "SmithOrder"+what, listText(impl.SmithOrder(jobs)), fmt.Sprint(modelSmith(jobs), " true"))
		wantText(t, "OnTimeOrder"+what, ontimeText(jobs), modelOnTime(jobs))
	}
}

func TestSumsOfOrdersAreThoseOfTheModel(t *testing.T) {
	state := sequence(32)
	for _, jobs := range manyJobs(3000, 12) {
		order := someTour(&state, len(jobs))
		var ends []int64
		for i := range jobs {
			ends = append(ends, endIn(jobs, order, int64(i)))
		}
		what := fmt.Sprint(" of ", jobs, " in the order ", order)
		wantText(t, "EndsOf"+what, endsText(jobs, order), fmt.Sprint(ends, " true"))
		weighted, most, count := modelSums(jobs, order)
		wantText(t, "sums"+what, sumsText(jobs, order), fmt.Sprint(weighted, true, most, true, count, true))
	}
}

func TestLeastLateIsThatOfTheModel(t *testing.T) {
	late := 0
	for _, jobs := range manyJobs(420, 7) {
		want := modelLeastLate(jobs)
		wantText(t, fmt.Sprint("LeastLate of ", jobs), leastLateText(jobs), want)
		if _, sum, _ := impl.LeastLate(jobs); sum > 0 && len(jobs) > 3 {
			late++
		}
	}
	if late < 100 {
		t.Errorf("jobs are late in %d lists", late)
	}
}

// modelPut puts jobs, in an order, on machines, and counts what each one has.
func modelPut(jobs []impl.Job, order []int64, machines int64) string {
	places, last := make([]int64, len(jobs)), int64(0)
	for n, i := range order {
		ends := make([]int64, machines)
		for _, k := range order[:n] {
			ends[places[k]] += jobs[k].Long
		}
		for m := machines - 1; m >= 0; m-- {
			if ends[m] <= ends[places[i]] {
				places[i] = m
			}
		}
		last = max(last, ends[places[i]]+jobs[i].Long)
	}
	return fmt.Sprint(places, " ", last, " true")
}

// modelSpan looks at all ways to put jobs on machines; those on which nothing is
// yet are alike.
func modelSpan(jobs []impl.Job, machines int64) int64 {
	ends, least := make([]int64, machines), int64(-1)
	var step func(i int, used int64)
	step = func(i int, used int64) {
		if i == len(jobs) {
			last := int64(0)
			for _, end := range ends {
				last = max(last, end)
			}
			if least < 0 || last < least {
				least = last
			}
			return
		}
		for m := range min(used+1, machines) {
			ends[m] += jobs[i].Long
			step(i+1, max(used, m+1))
			ends[m] -= jobs[i].Long
		}
	}
	step(0, 0)
	return least
}

func TestMachinesAreThoseOfTheModel(t *testing.T) {
	for n, jobs := range manyJobs(2400, 12) {
		machines := int64(1 + n/72%8)
		long := pickedOrder(len(jobs), func(i, j int64) bool { return jobs[i].Long > jobs[j].Long })
		what := fmt.Sprint(" of ", jobs, " on ", machines)
		wantText(t, "ListPlan"+what, listPlanText(jobs, machines), modelPut(jobs, numbersTo(int64(len(jobs))), machines))
		wantText(t, "LongFirst"+what, longFirstText(jobs, machines), modelPut(jobs, long, machines))
		want := "0 false"
		if len(jobs) <= 9 {
			want = fmt.Sprint(modelSpan(jobs, machines), " true")
		}
		wantText(t, "LeastSpan"+what, numberText(impl.LeastSpan(jobs, machines)), want)
	}
}

// stageLongs tells the Longs on two machines by the Longs and the Dues of jobs.
func stageLongs(jobs []impl.Job) (first, second []int64) {
	for _, j := range jobs {
		first, second = append(first, j.Long), append(second, 1+j.Due%1000)
	}
	return first, second
}

// stagesEnd returns when all things have ended on both machines in an order:
// the greatest sum of first Longs up to one of them, and second Longs from it on.
func stagesEnd(first, second, order []int64) int64 {
	last := int64(0)
	for turn := range order {
		sum := int64(0)
		for n, i := range order {
			if n <= turn {
				sum += first[i]
			}
			if n >= turn {
				sum += second[i]
			}
		}
		last = max(last, sum)
	}
	return last
}

func TestStagesAreThoseOfTheModel(t *testing.T) {
	for _, jobs := range manyJobs(3000, 12) {
		first, second := stageLongs(jobs)
		order := pickedOrder(len(first), func(i, j int64) bool {
			former, latter := first[i] <= second[i], first[j] <= second[j]
			switch {
			case former && latter:
				return first[i] < first[j]
			case former || latter:
				return former
			}
			return second[i] > second[j]
		})
		wantText(t, fmt.Sprint("TwoStages of ", first, " and ", second), stagesText(first, second), fmt.Sprint(order, " ", stagesEnd(first, second, order), " true"))
	}
}

// manySpans returns lists of at most so many spans, with few different times in
// most of them.
func manySpans(count, most int) [][]impl.Span {
	state := sequence(33)
	var list [][]impl.Span
	for i := range count {
		kinds := []struct{ time, long, gain int }{{8, 4, 3}, {20, 5, 5}, {4, 4, 2}, {90000, 10000, 1001}, {30, 12, 2}, {12, 2, 9}}
		k := kinds[i%len(kinds)]
		spans := make([]impl.Span, 1+i/len(kinds)%most)
		for n := range spans {
			from := int64(state.below(k.time))
			spans[n] = span(from, from+1+int64(state.below(k.long)), int64(state.below(k.gain)))
		}
		list = append(list, spans)
	}
	return list
}

// spansMeet reports whether two spans have a time between two integers that both
// of them take.
func spansMeet(a, b impl.Span) bool { return max(a.From, b.From) < min(a.To, b.To) }

func modelByEnd(spans []impl.Span) []int64 {
	return pickedOrder(len(spans), func(i, j int64) bool { return spans[i].To < spans[j].To })
}

// chosenText tells which ones of so many were chosen.
func chosenText(n int, chosen map[int64]bool) string {
	list := []int64{}
	for i := range int64(n) {
		if chosen[i] {
			list = append(list, i)
		}
	}
	return fmt.Sprint(list)
}

func modelMost(spans []impl.Span) string {
	chosen := map[int64]bool{}
	for _, i := range modelByEnd(spans) {
		meets := false
		for k := range chosen {
			meets = meets || spansMeet(spans[i], spans[k])
		}
		if !meets {
			chosen[i] = true
		}
	}
	return chosenText(len(spans), chosen) + " true"
}

// greatestGain returns the greatest sum of gains of those of a list of spans of
// which no two meet, and how many of them there are at most.
func greatestGain(spans []impl.Span) (gain int64, most int) {
	var chosen []impl.Span
	var step func(i int, sum int64)
	step = func(i int, sum int64) {
		gain, most = max(gain, sum), max(most, len(chosen))
		for k := i; k < len(spans); k++ {
			meets := false
			for _, s := range chosen {
				meets = meets || spansMeet(s, spans[k])
			}
			if !meets {
				chosen = append(chosen, spans[k])
				step(k+1, sum+spans[k].Gain)
				chosen = chosen[:len(chosen)-1]
			}
		}
	}
	step(0, 0)
	return gain, most
}

func modelBest(spans []impl.Span) string {
	order := modelByEnd(spans)
	var sorted []impl.Span
	for _, i := range order {
		sorted = append(sorted, spans[i])
	}
	greatest := func(i int) int64 {
		gain, _ := greatestGain(sorted[:i])
		return gain
	}
	chosen := map[int64]bool{}
	for i := len(sorted); i > 0; {
		if greatest(i) <= greatest(i-1) {
			i--
			continue
		}
		chosen[order[i-1]] = true
		before := 0
		for _, s := range sorted[:i-1] {
			if s.To <= sorted[i-1].From {
				before++
			}
		}
		i = before
	}
	return fmt.Sprint(chosenText(len(spans), chosen), " ", greatest(len(sorted)), " true")
}

func modelRooms(spans []impl.Span) string {
	rooms, count := repeat(len(spans), int64(-1)), int64(0)
	for _, i := range pickedOrder(len(spans), func(i, j int64) bool { return spans[i].From < spans[j].From }) {
		taken := map[int64]bool{}
		for k, room := range rooms {
			if room >= 0 && spansMeet(spans[i], spans[k]) {
				taken[room] = true
			}
		}
		room := int64(0)
		for taken[room] {
			room++
		}
		rooms[i], count = room, max(count, room+1)
	}
	return fmt.Sprint(rooms, " ", count, " true")
}

func TestSpansAreThoseOfTheModel(t *testing.T) {
	for _, spans := range manySpans(900, 9) {
		wantText(t, fmt.Sprint("BestSpans of ", spans), bestSpansText(spans), modelBest(spans))
	}
	for _, spans := range manySpans(1200, 64) {
		wantText(t, fmt.Sprint("MostSpans of ", spans), mostSpansText(spans), modelMost(spans))
		wantText(t, fmt.Sprint("RoomsOf ", spans), roomsText(spans), modelRooms(spans))
	}
}
