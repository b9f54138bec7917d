package tests

import (
	"fmt"
	"sort"
	"testing"

	"loop.example/g01346/impl"
)

// This file is the part of the model of chapter 6 that is about rules that do
// not know what comes, and about shrinking.

// manyAsks returns asks of at most so many, and of few different numbers.
func manyAsks(count, most int) [][]int64 {
	state := sequence(34)
	var list [][]int64
	for i := range count {
		asks := make([]int64, 1+i%most)
		for n := range asks {
			asks[n] = int64(state.below(2 + i%9))
			if i%4 == 0 && n > 0 && state.below(3) == 0 {
				asks[n] = asks[state.below(n)]
			}
		}
		list = append(list, asks)
	}
	return list
}

// modelFaults keeps for each ask in the room when it came in, and looks for all
// other times where they are needed.
func modelFaults(asks []int64, room int64, rule int64) int64 {
	came, faults := map[int64]int{}, int64(0)
	last := func(ask int64, now int) int {
		for k := now - 1; k >= 0; k-- {
			if asks[k] == ask {
				return k
			}
		}
		return -1
	}
	next := func(ask int64, now int) int {
		for k := now + 1; k < len(asks); k++ {
			if asks[k] == ask {
				return k
			}
		}
		return 1000
	}
	for now, ask := range asks {
		if _, ok := came[ask]; ok {
			continue
		}
		faults++
		if int64(len(came)) == room {
			out := int64(-1)
			for one := range int64(64) {
				if _, ok := came[one]; !ok {
					continue
				}
				if out < 0 || rule == 0 && came[one] < came[out] || rule == 1 && last(one, now) < last(out, now) || rule == 2 && next(one, now) > next(out, now) {
					out = one
				}
			}
			delete(came, out)
		}
		came[ask] = now
	}
	return faults
}

func TestFaultsAreThoseOfTheModel(t *testing.T) {
	differ := [3]int{}
	for n, asks := range manyAsks(3000, 64) {
		room := int64(1 + n/7%5)
		if n%11 == 0 {
			room = 16
		}
		var counts [3]int64
		for rule := range int64(3) {
			counts[rule] = modelFaults(asks, room, rule)
			wantText(t, fmt.Sprint("FaultsOf ", asks, " in a room of ", room, " by the rule ", rule), numberText(impl.FaultsOf(asks, room, rule)), fmt.Sprint(counts[rule], " true"))
		}
		for rule := range 3 {
			if counts[rule] != counts[(rule+1)%3] {
				differ[rule]++
			}
		}
	}
	if min(differ[0], differ[1], differ[2]) < 200 {
		t.Errorf("rules differ %v times", differ)
	}
}

// modelFront asks how many different ones were asked for since, or are before it
// in the first list and were not asked for: so many are in front of an ask.
func modelFront(asks []int64, n int64) string {
	place := func(ask int64, now int) int64 {
		seen := map[int64]bool{}
		for k := now - 1; k >= 0; k-- {
			if asks[k] == ask {
				return int64(len(seen)) + 1
			}
			seen[asks[k]] = true
		}
		for one := range ask {
			seen[one] = true
		}
		return int64(len(seen)) + 1
	}
	cost := int64(0)
	for now, ask := range asks {
		cost += place(ask, now)
	}
	list := make([]int64, n)
	for one := range n {
		list[place(one, len(asks))-1] = one
	}
	return fmt.Sprint(cost, " ", list, " true")
}

func TestFrontCostIsThatOfTheModel(t *testing.T) {
	for i, asks := range manyAsks(3000, 64) {
		n := int64(0)
		for _, ask := range asks {
			n = max(n, ask+1)
		}
		n += int64(i % 3)
		wantText(t, fmt.Sprint("FrontCost of ", asks, " and ", n), frontText(asks, n), modelFront(asks, n))
	}
}

func TestPicksAreThoseOfTheModel(t *testing.T) {
	for i, list := range manyAsks(3000, 64) {
		look := i / 3 % len(list)
		pick := len(list) - 1
		for k := len(list) - 1; k >= look; k-- {
			greater := true
			for _, before := range list[:look] {
				greater = greater && list[k] > before
			}
			if greater {
				pick = k
			}
		}
		wantText(t, fmt.Sprint("PickAfter of ", list, " and ", look), numberText(impl.PickAfter(list, int64(look))), fmt.Sprint(pick, " true"))
	}
}

// modelShrink tells a number nearer to 0, in 64-bit numbers.
func modelShrink(x, by float64) float64 {
	if x > by {
		return modelLess(x, by)
	}
	if -x > by {
		return modelAdd(x, by)
	}
	return 0
}

// manyNumbers returns lists of numbers: of tenths, of halves, of bits of all
// kinds, and of edges.
func manyNumbers(count int) [][]float32 {
	state := sequence(35)
	var bits []uint32
	for _, b := range manyBits(3000) {
		if x := num(b); finite(float64(x)) {
			bits = append(bits, b)
		}
	}
	var list [][]float32
	for i := range count {
		numbers := make([]float32, 1+i/5%64)
		for n := range numbers {
			switch i % 5 {
			case 0:
				numbers[n] = float32(state.below(41)-20) / 10
			case 1:
				numbers[n] = float32(state.below(9)-4) / 2
			case 2:
				numbers[n] = num(bits[state.below(len(bits))])
			case 3:
				numbers[n] = float32(state.below(1<<24)-1<<23) / (1 << 23)
			case 4:
				numbers[n] = num(edgeBits()[state.below(20)])
			}
		}
		list = append(list, numbers)
	}
	return list
}

func TestShrunkNumbersAreThoseOfTheModel(t *testing.T) {
	state := sequence(36)
	for _, list := range manyNumbers(3000) {
		by := list[state.below(len(list))]
		if by < 0 {
			by = -by
		}
		var want []float64
		for _, x := range list {
			want = append(want, modelShrink(float64(x), float64(by)))
		}
		wantText(t, fmt.Sprint("ShrinkList of ", list, " by ", by), shrinkText(list, by), hexWide(want)+" true")
	}
}

func modelSimplex(list []float32) (string, bool) {
	sorted := wide(list)
	sort.Slice(sorted, func(i, j int) bool { return sorted[i] > sorted[j] })
	for k := len(sorted); k > 0; k-- {
		sum := 0.0
		for _, x := range sorted[:k] {
			sum = modelAdd(sum, x)
		}
		share := modelDiv(modelLess(sum, 1), float64(k))
		if sorted[k-1] <= share {
			continue
		}
		var nearest []float64
		for _, x := range wide(list) {
			y := modelLess(x, share)
			if y < 0 {
				y = 0
			}
			nearest = append(nearest, y)
		}
		if !finite(nearest...) {
			break
		}
		return hexWide(nearest) + " true", true
	}
	return " false", false
}

func TestSimplexesAreThoseOfTheModel(t *testing.T) {
	fails := 0
	for _, list := range manyNumbers(4000) {
		want, ok := modelSimplex(list)
		wantText(t, fmt.Sprint("ToSimplex of ", list), simplexText(list), want)
		if !ok {
			fails++
		}
	}
	if fails < 50 || fails > 2000 {
		t.Errorf("ToSimplex fails for %d lists", fails)
	}
}

func modelSteps(r impl.Rows, step, by float32, rounds int64) string {
	shrink := modelMul(float64(step), float64(by))
	x := make([]float64, r.Vars)
	for range rounds {
		left := modelLeft(r, x)
		if !finite(left...) {
			return " false"
		}
		next := make([]float64, r.Vars)
		for k := range next {
			var column []float64
			for i := range r.Bounds {
				column = append(column, float64(r.Numbers[i*int(r.Vars)+k]))
			}
			next[k] = modelAdd(x[k], modelMul(float64(step), modelDot(column, left)))
		}
		if !finite(next...) {
			return " false"
		}
		for k := range next {
			x[k] = modelShrink(next[k], shrink)
		}
	}
	return hexWide(x) + " true"
}

func TestStepsAreThoseOfTheModel(t *testing.T) {
	fails, all := 0, manyRows(1500)
	for n, r := range all {
		step := []float32{0.01, 0.125, 0.3, 1, 0x1p-30, 3e9}[n%6]
		by := []float32{0, 0.1, 0.5, 1, 3}[n/6%5]
		rounds := []int64{1, 2, 5, 30}[n/30%4]
		want := modelSteps(r, step, by, rounds)
		wantText(t, fmt.Sprintf("ShrinkSteps of %s, %g, %g and %d", rowsText(r), step, by, rounds), stepsText(r, step, by, rounds), want)
		if want == " false" {
			fails++
		}
	}
	if fails < 100 || fails > len(all)/2 {
		t.Errorf("ShrinkSteps fails for %d rows of %d", fails, len(all))
	}
}
