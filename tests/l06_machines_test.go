package tests

import (
	"fmt"
	"math"
	"testing"

	"loop.example/g01346/impl"
)

func TestMachines(t *testing.T) {
	for _, c := range []struct {
		what              string
		jobs              []impl.Job
		machines          int64
		list, long, least string
	}{
		{"one job", longJobs(7), 1, "[0] 7 true", "[0] 7 true", "7 true"},
		{"machines with nothing to do", longJobs(7, 2), 8, "[0 1] 7 true", "[0 1] 7 true", "7 true"},
		{"one machine", longJobs(7, 2, 5), 1, "[0 0 0] 14 true", "[0 0 0] 14 true", "14 true"},
		{"the stage's first example", longJobs(1, 1, 2), 2, "[0 1 0] 3 true", "[1 1 0] 2 true", "2 true"},
		{"the stage's second example", longJobs(3, 3, 2, 2, 2), 2, "[0 1 0 1 0] 7 true", "[0 1 0 1 0] 7 true", "6 true"},
		{"equal Longs", longJobs(4, 4, 4, 4, 4), 3, "[0 1 2 0 1] 8 true", "[0 1 2 0 1] 8 true", "8 true"},
		{"the first one that is free, not the next one", longJobs(5, 1, 1, 1, 9), 2, "[0 1 1 1 1] 12 true", "[1 1 1 1 0] 9 true", "9 true"},
		{"equal Longs keep their order", longJobs(1, 2, 1, 2), 2, "[0 1 0 0] 4 true", "[0 0 1 1] 3 true", "3 true"},
		{"three of each", longJobs(5, 5, 4, 4, 3, 3, 3), 3, "[0 1 2 2 0 1 0] 11 true", "[0 1 2 2 0 1 0] 11 true", "9 true"},
		{"as many as machines", longJobs(8, 7, 6, 5, 4, 3, 2, 1), 8, "[0 1 2 3 4 5 6 7] 8 true", "[0 1 2 3 4 5 6 7] 8 true", "8 true"},
		{"Ready does not count", []impl.Job{jobOf(2, 0, 0, 100), jobOf(3, 0, 0, 0)}, 1, "[0 0] 5 true", "[0 0] 5 true", "5 true"},
		{"most jobs of LeastSpan", repeat(9, edgeJob()), 4, "[0 1 2 3 0 1 2 3 0] 3000 true", "[0 1 2 3 0 1 2 3 0] 3000 true", "3000 true"},
		{"one more job than LeastSpan takes", repeat(10, edgeJob()), 8, "[0 1 2 3 4 5 6 7 0 1] 2000 true", "[0 1 2 3 4 5 6 7 0 1] 2000 true", "0 false"},
		{"most jobs", repeat(12, edgeJob()), 1, "[0 0 0 0 0 0 0 0 0 0 0 0] 12000 true", "[0 0 0 0 0 0 0 0 0 0 0 0] 12000 true", "0 false"},
	} {
		wantText(t, "ListPlan, "+c.what, listPlanText(c.jobs, c.machines), c.list)
		wantText(t, "LongFirst, "+c.what, longFirstText(c.jobs, c.machines), c.long)
		wantText(t, "LeastSpan, "+c.what, numberText(impl.LeastSpan(c.jobs, c.machines)), c.least)
	}
	for _, machines := range []int64{0, -1, 9, math.MaxInt64, math.MinInt64, 1 << 32, 1<<32 + 1} {
		what := fmt.Sprint(" on ", machines)
		wantText(t, "ListPlan"+what, listPlanText(longJobs(1, 2), machines), "[] 0 false")
		wantText(t, "LongFirst"+what, longFirstText(longJobs(1, 2), machines), "[] 0 false")
		wantText(t, "LeastSpan"+what, numberText(impl.LeastSpan(longJobs(1, 2), machines)), "0 false")
	}
}

// wrongStages are pairs of lists, one of which is wrong.
func wrongStages() [][2][]int64 {
	list := [][2][]int64{
		{nil, nil}, {{}, {}}, {{1}, nil}, {nil, {1}}, {{1}, {1, 2}}, {{1, 2}, {1}}, {repeat(13, int64(1)), repeat(13, int64(1))},
		{repeat(12, int64(1)), repeat(13, int64(1))}, {repeat(13, int64(1)), repeat(12, int64(1))}, {repeat(5000, int64(1)), repeat(5000, int64(1))},
	}
	for _, n := range []int64{0, -1, 1001, math.MaxInt64, math.MinInt64, 1 << 32, 1<<32 + 1} {
		list = append(list, [2][]int64{{n}, {1}}, [2][]int64{{1}, {n}}, [2][]int64{{1, n}, {1, 1}}, [2][]int64{{1, 1}, {1, n}}, [2][]int64{{n, 1}, {n, 1}})
	}
	return list
}

func TestTwoStages(t *testing.T) {
	for _, c := range []struct {
		what          string
		first, second []int64
		want          string
	}{
		{"one thing", ints(3), ints(4), "[0] 7 true"},
		{"the stage's example", ints(3, 1), ints(1, 2), "[1 0] 5 true"},
		{"the former ones in ascending order", ints(3, 2, 1), ints(9, 9, 9), "[2 1 0] 28 true"},
		{"the latter ones in descending order", ints(9, 9, 9), ints(1, 3, 2), "[1 2 0] 28 true"},
		{"equal Longs are former ones", ints(2, 5), ints(2, 9), "[0 1] 16 true"},
		{"an equal one behind, as the first Longs ascend", ints(5, 2), ints(5, 9), "[1 0] 16 true"},
		{"equal ones among the former", ints(2, 2, 2), ints(3, 2, 9), "[0 1 2] 16 true"},
		{"equal ones among the latter", ints(5, 6, 7), ints(2, 2, 2), "[0 1 2] 20 true"},
		{"both kinds", ints(4, 1, 9, 3), ints(5, 6, 2, 1), "[1 0 2 3] 18 true"},
		{"it waits for the first machine", ints(9, 8), ints(1, 2), "[1 0] 18 true"},
		{"the second Longs do not order the former", ints(1, 2), ints(1, 9), "[0 1] 12 true"},
		{"numbers at the limits", repeat(12, int64(1000)), repeat(12, int64(1000)), "[0 1 2 3 4 5 6 7 8 9 10 11] 13000 true"},
		{"the least and the greatest", ints(1000, 1), ints(1, 1000), "[1 0] 1002 true"},
	} {
		wantText(t, "TwoStages, "+c.what, stagesText(c.first, c.second), c.want)
	}
	for _, c := range wrongStages() {
		wantText(t, fmt.Sprintf("TwoStages of %.99s", fmt.Sprint(c)), stagesText(c[0], c[1]), "[] 0 false")
	}
}
