package tests

import (
	"fmt"
	"math"
	"testing"

	"loop.example/g01346/impl"
)

func TestLimitsOfChapter6(t *testing.T) {
	wantText(t, "limits", fmt.Sprint(impl.MaxJobs, impl.MaxTime, impl.MaxAsks), "12 100000 64")
}

func jobOf(long, due, weight, ready int64) impl.Job {
	return impl.Job{Long: long, Due: due, Weight: weight, Ready: ready}
}

// plainJobs are jobs, each told by its Long, its Due and its Weight.
func plainJobs(numbers ...int64) []impl.Job {
	var jobs []impl.Job
	for i := 0; i < len(numbers); i += 3 {
		jobs = append(jobs, jobOf(numbers[i], numbers[i+1], numbers[i+2], 0))
	}
	return jobs
}

// longJobs are jobs of some Longs.
func longJobs(longs ...int64) []impl.Job {
	var jobs []impl.Job
	for _, long := range longs {
		jobs = append(jobs, jobOf(long, 0, 0, 0))
	}
	return jobs
}

// edgeJob has all numbers at their limits.
func edgeJob() impl.Job { return jobOf(1000, 100000, 1000, 100000) }

func rightJobs() [][]impl.Job {
	return [][]impl.Job{
		longJobs(1), longJobs(1000), {edgeJob()}, {jobOf(1, 0, 0, 0), edgeJob()}, repeat(12, edgeJob()), repeat(12, jobOf(1, 0, 0, 0)),
		plainJobs(2, 2, 1, 1, 3, 1),
	}
}

// wrongJobs are lists, in each of which one thing is wrong.
func wrongJobs() [][]impl.Job {
	list := [][]impl.Job{nil, {}, repeat(13, edgeJob()), repeat(5000, jobOf(1, 0, 0, 0))}
	good := jobOf(1, 0, 0, 0)
	wrong := []impl.Job{{}, jobOf(0, 1, 1, 1), jobOf(1001, 1, 1, 1)}
	for _, n := range []int64{-1, math.MinInt64, math.MaxInt64, 1 << 32, 1<<32 + 1} {
		wrong = append(wrong, jobOf(n, 1, 1, 1), jobOf(1, n, 1, 1), jobOf(1, 1, n, 1), jobOf(1, 1, 1, n))
	}
	wrong = append(wrong, jobOf(1, 100001, 1, 1), jobOf(1, 1, 1001, 1), jobOf(1, 1, 1, 100001))
	for _, j := range wrong {
		list = append(list, []impl.Job{j}, []impl.Job{good, j}, []impl.Job{j, good}, append(repeat(11, good), j))
	}
	return list
}

func TestAreJobs(t *testing.T) {
	for _, jobs := range rightJobs() {
		wantBool(t, fmt.Sprint("AreJobs ", jobs), impl.AreJobs(jobs), true)
	}
	for _, jobs := range wrongJobs() {
		wantBool(t, fmt.Sprintf("AreJobs %.99s", fmt.Sprint(jobs)), impl.AreJobs(jobs), false)
	}
}

func listText(list []int64, ok bool) string          { return fmt.Sprint(list, " ", ok) }
func numberText(n int64, ok bool) string             { return fmt.Sprint(n, " ", ok) }
func bothText(list []int64, n int64, ok bool) string { return fmt.Sprint(list, " ", n, " ", ok) }
func endsText(jobs []impl.Job, order []int64) string { return listText(impl.EndsOf(jobs, order)) }
func ontimeText(jobs []impl.Job) string              { return bothText(impl.OnTimeOrder(jobs)) }
func leastLateText(jobs []impl.Job) string           { return bothText(impl.LeastLate(jobs)) }
func listPlanText(jobs []impl.Job, m int64) string   { return bothText(impl.ListPlan(jobs, m)) }
func longFirstText(jobs []impl.Job, m int64) string  { return bothText(impl.LongFirst(jobs, m)) }
func stagesText(first, second []int64) string        { return bothText(impl.TwoStages(first, second)) }
func sumsText(jobs []impl.Job, order []int64) string {
	weighted, one := impl.WeightedEnds(jobs, order)
	most, two := impl.MostLate(jobs, order)
	count, three := impl.CountLate(jobs, order)
	return fmt.Sprint(weighted, one, most, two, count, three)
}

func TestEndsOfOrders(t *testing.T) {
	two := plainJobs(2, 2, 1, 1, 3, 1)
	three := []impl.Job{jobOf(5, 4, 3, 9), jobOf(1, 5, 7, 100000), jobOf(10, 100, 0, 50)}
	for _, c := range []struct {
		what       string
		jobs       []impl.Job
		order      []int64
		ends, sums string
	}{
		{"the example", two, ints(0, 1), "[2 3] true", "5 true 0 true 0 true"},
		{"the example turned around", two, ints(1, 0), "[3 1] true", "4 true 1 true 1 true"},
		{"one job", plainJobs(7, 9, 2), ints(0), "[7] true", "14 true -2 true 0 true"},
		{"one job that ends as it is due", plainJobs(7, 7, 2), ints(0), "[7] true", "14 true 0 true 0 true"},
		{"one job that is late by 1", plainJobs(7, 6, 2), ints(0), "[7] true", "14 true 1 true 1 true"},
		{"Ready does not count", three, ints(0, 1, 2), "[5 6 16] true", "57 true 1 true 2 true"},
		{"told by index", three, ints(2, 0, 1), "[15 16 10] true", "157 true 11 true 2 true"},
		{"all are early", plainJobs(1, 100000, 1, 1, 50000, 1), ints(1, 0), "[2 1] true", "3 true -49999 true 0 true"},
		{"all are late", plainJobs(3, 0, 1, 3, 0, 1), ints(1, 0), "[6 3] true", "9 true 6 true 2 true"},
		{"Weights of 0", plainJobs(3, 9, 0, 3, 9, 0), ints(0, 1), "[3 6] true", "0 true -3 true 0 true"},
		{"numbers at the limits", repeat(12, edgeJob()), numbersTo(12), "[1000 2000 3000 4000 5000 6000 7000 8000 9000 10000 11000 12000] true", "78000000 true -88000 true 0 true"},
	} {
		wantText(t, "EndsOf, "+c.what, endsText(c.jobs, c.order), c.ends)
		wantText(t, "sums, "+c.what, sumsText(c.jobs, c.order), c.sums)
	}
}

// wrongOrders are no orders of three jobs.
func wrongOrders() [][]int64 {
	return [][]int64{
		nil, {}, {0}, {0, 1}, {1, 2}, {0, 1, 2, 3}, {0, 1, 2, 2}, {0, 1, 2, 0}, {0, 0, 0}, {0, 1, 1}, {1, 1, 2}, {0, 2, 2}, {1, 2, 3}, {0, 1, 3}, {-1, 0, 1}, {0, 1, -2}, {3, 2, 1},
		{0, 1, math.MaxInt64}, {math.MinInt64, 0, 1}, {0, 1, 1<<32 + 2}, {1 << 32, 1, 2}, numbersTo(5000),
	}
}

func TestOrdersFail(t *testing.T) {
	good := longJobs(1, 2, 3)
	for _, order := range wrongOrders() {
		what := fmt.Sprintf(" in the order %.99s", fmt.Sprint(order))
		wantText(t, "EndsOf"+what, endsText(good, order), "[] false")
		wantText(t, "sums"+what, sumsText(good, order), "0 false 0 false 0 false")
	}
	for _, order := range [][]int64{{0, 1, 2}, {2, 1, 0}, {1, 2, 0}} {
		wantBool(t, fmt.Sprint("EndsOf in the order ", order), endsText(good, order) != "[] false", true)
	}
	for _, jobs := range wrongJobs() {
		what := fmt.Sprintf(" of %.99s", fmt.Sprint(jobs))
		order := numbersTo(int64(len(jobs)))
		wantText(t, "EndsOf"+what, endsText(jobs, order), "[] false")
		wantText(t, "sums"+what, sumsText(jobs, order), "0 false 0 false 0 false")
		wantText(t, "DueOrder"+what, listText(impl.DueOrder(jobs)), "[] false")
		wantText(t, "SmithOrder"+what, listText(impl.SmithOrder(jobs)), "[] false")
		wantText(t, "OnTimeOrder"+what, ontimeText(jobs), "[] 0 false")
		wantText(t, "LeastLate"+what, leastLateText(jobs), "[] 0 false")
		wantText(t, "HeadsBound"+what, numberText(impl.HeadsBound(jobs)), "0 false")
		wantText(t, "ListPlan"+what, listPlanText(jobs, 2), "[] 0 false")
		wantText(t, "LongFirst"+what, longFirstText(jobs, 2), "[] 0 false")
		wantText(t, "LeastSpan"+what, numberText(impl.LeastSpan(jobs, 2)), "0 false")
	}
}

func TestDueOrder(t *testing.T) {
	for _, c := range []struct {
		what string
		jobs []impl.Job
		want string
	}{
		{"one job", plainJobs(1, 5, 0), "[0] true"},
		{"ascending", plainJobs(9, 1, 0, 8, 2, 0, 7, 3, 0), "[0 1 2] true"},
		{"descending", plainJobs(9, 3, 0, 8, 2, 0, 7, 1, 0), "[2 1 0] true"},
		{"equal due times", plainJobs(9, 3, 5, 8, 3, 6, 7, 3, 7), "[0 1 2] true"},
		{"some equal due times", plainJobs(1, 3, 0, 1, 2, 0, 1, 3, 0, 1, 2, 0, 1, 0, 0), "[4 1 3 0 2] true"},
		{"due times at the limits", plainJobs(1, 100000, 0, 1, 0, 0), "[1 0] true"},
		{"Ready does not count", []impl.Job{jobOf(1, 5, 0, 9), jobOf(1, 6, 0, 0)}, "[0 1] true"},
		{"most equal ones", repeat(12, edgeJob()), "[0 1 2 3 4 5 6 7 8 9 10 11] true"},
	} {
		wantText(t, "DueOrder, "+c.what, listText(impl.DueOrder(c.jobs)), c.want)
	}
}

func TestSmithOrder(t *testing.T) {
	for _, c := range []struct {
		what string
		jobs []impl.Job
		want string
	}{
		{"one job", plainJobs(1, 5, 0), "[0] true"},
		{"the stage's example", plainJobs(2, 2, 1, 1, 3, 1), "[1 0] true"},
		{"equal quotients", plainJobs(2, 0, 4, 1, 0, 2, 3, 0, 6, 500, 0, 1000), "[0 1 2 3] true"},
		{"Weights of 0", plainJobs(9, 0, 0, 1, 0, 0, 1000, 0, 0), "[0 1 2] true"},
		{"a Weight of 0 comes last", plainJobs(1, 0, 0, 1000, 0, 1), "[1 0] true"},
		{"nearly equal quotients", plainJobs(1000, 0, 999, 999, 0, 998), "[0 1] true"},
		{"nearly equal quotients turned around", plainJobs(999, 0, 998, 1000, 0, 999), "[1 0] true"},
		{"quotients that are equal when rounded down", plainJobs(3, 0, 4, 4, 0, 7, 2, 0, 3), "[1 2 0] true"},
		{"due times do not count", plainJobs(1, 9, 5, 1, 1, 4), "[0 1] true"},
		{"descending", plainJobs(1, 0, 1, 1, 0, 2, 1, 0, 3, 1, 0, 2), "[2 1 3 0] true"},
	} {
		wantText(t, "SmithOrder, "+c.what, listText(impl.SmithOrder(c.jobs)), c.want)
	}
}

func TestOnTimeOrder(t *testing.T) {
	for _, c := range []struct {
		what string
		jobs []impl.Job
		want string
	}{
		{"one job on time", plainJobs(3, 3, 0), "[0] 1 true"},
		{"one late job", plainJobs(3, 2, 0), "[0] 0 true"},
		{"the stage's example", plainJobs(3, 3, 0, 1, 3, 0, 1, 4, 0), "[1 2 0] 2 true"},
		{"all are late in every order", plainJobs(2, 1, 9, 3, 2, 9, 1, 0, 9), "[2 0 1] 0 true"},
		{"all are on time", plainJobs(2, 6, 0, 3, 5, 0, 1, 9, 0), "[1 0 2] 3 true"},
		{"equal Longs: the first one in this order is put away", plainJobs(2, 4, 0, 2, 3, 0, 2, 4, 0), "[0 2 1] 2 true"},
		{"equal due times: the one with the lesser index comes first", plainJobs(2, 3, 0, 2, 3, 0), "[1 0] 1 true"},
		{"the one that is put behind is put away itself", plainJobs(1, 1, 0, 1, 2, 0, 5, 3, 0, 1, 3, 0), "[0 1 3 2] 3 true"},
		{"the order of those that are put away", plainJobs(4, 4, 0, 3, 5, 0, 2, 6, 0, 1, 6, 0), "[1 2 3 0] 3 true"},
		{"several are put away", plainJobs(5, 5, 0, 4, 5, 0, 3, 5, 0, 2, 5, 0), "[2 3 0 1] 2 true"},
		{"put away later, though it comes earlier", plainJobs(6, 9, 0, 9, 9, 0, 4, 9, 0), "[2 1 0] 1 true"},
		{"due times and Longs at the limits", repeat(12, edgeJob()), "[0 1 2 3 4 5 6 7 8 9 10 11] 12 true"},
		{"Ready and Weights do not count", []impl.Job{jobOf(2, 2, 1, 9), jobOf(1, 2, 1000, 0)}, "[1 0] 1 true"},
	} {
		wantText(t, "OnTimeOrder, "+c.what, ontimeText(c.jobs), c.want)
	}
}

func TestLeastLate(t *testing.T) {
	for _, c := range []struct {
		what string
		jobs []impl.Job
		want string
	}{
		{"one job on time", plainJobs(3, 3, 7), "[0] 0 true"},
		{"one late job", plainJobs(3, 1, 7), "[0] 14 true"},
		{"the stage's example", plainJobs(2, 1, 3, 1, 1, 1), "[0 1] 5 true"},
		{"none is late: the last job is the least one", plainJobs(1, 9, 1, 1, 9, 1, 1, 9, 1), "[2 1 0] 0 true"},
		{"Weights of 0", plainJobs(5, 0, 0, 4, 0, 0, 3, 0, 0), "[2 1 0] 0 true"},
		{"equal jobs", plainJobs(2, 1, 1, 2, 1, 1), "[1 0] 4 true"},
		{"late in every order", plainJobs(2, 0, 1, 3, 0, 1), "[0 1] 7 true"},
		{"one must be late", plainJobs(2, 2, 5, 2, 2, 4), "[0 1] 8 true"},
		{"the last but one counts when the last one is equal", plainJobs(1, 3, 1, 1, 2, 1, 1, 2, 1), "[2 1 0] 0 true"},
		{"the last one is the least that can be", plainJobs(1, 1, 1, 1, 9, 1, 1, 9, 1), "[0 2 1] 0 true"},
		{"Ready does not count", []impl.Job{jobOf(1, 1, 9, 50), jobOf(1, 2, 9, 0)}, "[0 1] 0 true"},
		{"being early is worth nothing", plainJobs(1, 100000, 1000, 1, 1, 1), "[1 0] 0 true"},
		{"numbers at the limits", repeat(12, jobOf(1000, 0, 1000, 0)), "[11 10 9 8 7 6 5 4 3 2 1 0] 78000000 true"},
	} {
		wantText(t, "LeastLate, "+c.what, leastLateText(c.jobs), c.want)
	}
}

func TestHeadsBound(t *testing.T) {
	for _, c := range []struct {
		what string
		jobs []impl.Job
		want string
	}{
		{"one job", []impl.Job{jobOf(3, 0, 0, 4)}, "7 true"},
		{"none has to wait", longJobs(1, 2, 3), "6 true"},
		{"the stage's example", []impl.Job{jobOf(2, 2, 1, 0), jobOf(1, 3, 1, 5)}, "6 true"},
		{"the first ones take longer", []impl.Job{jobOf(9, 0, 0, 0), jobOf(1, 0, 0, 5)}, "10 true"},
		{"equal Readies count together", []impl.Job{jobOf(2, 0, 0, 5), jobOf(3, 0, 0, 5), jobOf(1, 0, 0, 0)}, "10 true"},
		{"one between others", []impl.Job{jobOf(1, 0, 0, 0), jobOf(4, 0, 0, 10), jobOf(2, 0, 0, 12)}, "16 true"},
		{"due times and Weights do not count", []impl.Job{jobOf(1, 100000, 1000, 0)}, "1 true"},
		{"numbers at the limits", repeat(12, edgeJob()), "112000 true"},
	} {
		wantText(t, "HeadsBound, "+c.what, numberText(impl.HeadsBound(c.jobs)), c.want)
	}
}
