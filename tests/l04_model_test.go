package tests

import (
	"fmt"
	"math/bits"
	"testing"

	"loop.example/g01346/impl"
)

// This file holds a model of packs, bins, halves and covers that is written
// apart from the program, straight from the document's text, and looks at all
// sets of indices.

// manyThings returns things of 1 to 16 sizes, and of several kinds: with many
// equal quotients, with gains of 0, and with rooms from nothing to all.
func manyThings(count int) []things {
	state := sequence(4)
	var list []things
	for i := range count {
		var c things
		spread := []int{2, 5, 30, 300, 1000}[i/16%5]
		for range 1 + i%16 {
			size := int64(1 + state.below(spread))
			c.sizes = append(c.sizes, size)
			c.gains = append(c.gains, min(1000, []int64{int64(state.below(2)), int64(state.below(spread)), size * int64(state.below(3)), size, int64(state.below(1001))}[state.below(5)]))
		}
		switch all := sumOfAll(c.sizes); state.below(6) {
		case 0:
			c.room = int64(state.below(3))
		case 1:
			c.room = min(1000, all+int64(state.below(2)))
		case 2:
			c.room = 1000
		default:
			c.room = int64(state.below(int(min(1000, all)) + 1))
		}
		list = append(list, c)
	}
	return list
}

func sumOfAll(list []int64) int64 {
	sum := int64(0)
	for _, x := range list {
		sum += x
	}
	return sum
}

// sumAt returns the sum of the integers whose indices are digits of a number.
func sumAt(list []int64, digits int) int64 {
	sum := int64(0)
	for i, x := range list {
		if digits>>i&1 == 1 {
			sum += x
		}
	}
	return sum
}

func indicesIn(digits int) []int64 {
	var list []int64
	for i := range 62 {
		if digits>>i&1 == 1 {
			list = append(list, int64(i))
		}
	}
	return list
}

func digitsOf(list []int64) int {
	digits := 0
	for _, i := range list {
		digits |= 1 << i
	}
	return digits
}

// bestOf returns the greatest sum of gains of sets of the first things, whose
// sizes have a sum of at most room.
func bestOf(c things, first int, room int64) int64 {
	best := int64(0)
	for digits := range 1 << first {
		if sumAt(c.sizes, digits) <= room {
			best = max(best, sumAt(c.gains, digits))
		}
	}
	return best
}

// modelBestPack takes a thing if no set of those before it has as great a sum.
func modelBestPack(c things) string {
	var pack []int64
	left := c.room
	for i := len(c.sizes) - 1; i >= 0; i-- {
		if bestOf(c, i, left) < bestOf(c, i+1, left) {
			pack = append([]int64{int64(i)}, pack...)
			left -= c.sizes[i]
		}
	}
	return fmt.Sprint(pack, " ", bestOf(c, len(c.sizes), c.room), " true")
}

// modelByQuotient takes out, again and again, the first thing with the greatest
// quotient.
func modelByQuotient(c things) []int {
	var order []int
	taken := make([]bool, len(c.sizes))
	for range c.sizes {
		first := -1
		for i := range c.sizes {
			if !taken[i] && (first < 0 || c.gains[i]*c.sizes[first] > c.gains[first]*c.sizes[i]) {
				first = i
			}
		}
		taken[first] = true
		order = append(order, first)
	}
	return order
}

func modelGreedyPack(c things) string {
	digits, left := 0, c.room
	for _, i := range modelByQuotient(c) {
		if left-c.sizes[i] >= 0 {
			digits += 1 << i
			left -= c.sizes[i]
		}
	}
	return fmt.Sprint(indicesIn(digits), " ", sumAt(c.gains, digits), " true")
}

func modelPackBound(c things) string {
	bound, left := int64(0), c.room
	for _, i := range modelByQuotient(c) {
		if left < c.sizes[i] {
			part := int64(0)
			for part+1 <= c.gains[i] && (part+1)*c.sizes[i] <= c.gains[i]*left {
				part++
			}
			return fmt.Sprint(bound+part, " true")
		}
		bound, left = bound+c.gains[i], left-c.sizes[i]
	}
	return fmt.Sprint(bound, " true")
}

func TestPacksAreThoseOfTheModel(t *testing.T) {
	for _, c := range manyThings(320) {
		if len(c.sizes) > 12 {
			continue
		}
		what := fmt.Sprint(" of ", c)
		wantText(t, "BestPack"+what, bestText(c), modelBestPack(c))
		var gains []int64
		for room := range c.room + 1 {
			if len(c.sizes) > 6 && room%97 != 0 && room != c.room {
				gains = append(gains, -1)
				continue
			}
			gains = append(gains, bestOf(c, len(c.sizes), room))
		}
		told, ok := impl.BestGains(c.sizes, c.gains, c.room)
		wantBool(t, "BestGains"+what, ok && len(told) == len(gains), true)
		for room, gain := range gains {
			if gain >= 0 && told[room] != gain {
				t.Errorf("BestGains%s at %d: got %d, want %d", what, room, told[room], gain)
			}
		}
	}
	for _, c := range manyThings(1600) {
		what := fmt.Sprint(" of ", c)
		wantText(t, "GreedyPack"+what, greedyText(c), modelGreedyPack(c))
		wantText(t, "PackBound"+what, boundText(c), modelPackBound(c))
	}
}

// TestNoPackIsBetter is about promise 5: the best pack keeps the room, no other
// one is better, and the bound is never less.
func TestNoPackIsBetter(t *testing.T) {
	for _, c := range manyThings(320) {
		pack, gain, ok := impl.BestPack(c.sizes, c.gains, c.room)
		what := fmt.Sprint(" of ", c)
		digits := digitsOf(pack)
		wantText(t, "the pack"+what, fmt.Sprint(pack), fmt.Sprint(indicesIn(digits)))
		if !ok || sumAt(c.sizes, digits) > c.room || sumAt(c.gains, digits) != gain {
			t.Errorf("BestPack%s: got %v, %d, %v", what, pack, gain, ok)
		}
		if best := bestOf(c, len(c.sizes), c.room); gain < best {
			t.Errorf("BestPack%s: got %d, but there is one with %d", what, gain, best)
		}
		gains, _ := impl.BestGains(c.sizes, c.gains, c.room)
		_, greedy, _ := impl.GreedyPack(c.sizes, c.gains, c.room)
		bound, _ := impl.PackBound(c.sizes, c.gains, c.room)
		if gains[c.room] != gain || greedy > gain || bound < gain {
			t.Errorf("packs%s: got %d, %d by the rule, and at most %d", what, gain, greedy, bound)
		}
	}
}

func TestWaysToFillAreThoseOfTheModel(t *testing.T) {
	for _, c := range manyThings(320) {
		count := 0
		for digits := range 1 << len(c.sizes) {
			if sumAt(c.sizes, digits) == c.room {
				count++
			}
		}
		wantText(t, fmt.Sprint("WaysToFill of ", c), fillText(fit{c.sizes, c.room}), fmt.Sprint(count, " true"))
	}
}

// modelFirstBins takes out, again and again, the first thing of the greatest
// size, and looks at what is in each bin.
func modelFirstBins(c fit) string {
	bins := repeat(len(c.sizes), int64(-1))
	count := int64(0)
	for range c.sizes {
		next := -1
		for i, size := range c.sizes {
			if bins[i] < 0 && (next < 0 || size > c.sizes[next]) {
				next = i
			}
		}
		for bin := int64(0); bins[next] < 0; bin++ {
			sum := c.sizes[next]
			for i, other := range bins {
				if other == bin {
					sum += c.sizes[i]
				}
			}
			if sum <= c.room {
				bins[next] = bin
				count = max(count, bin+1)
			}
		}
	}
	return fmt.Sprint(bins, " ", count, " true")
}

// modelLeastBins puts each thing into each bin that there is, or into a new one.
func modelLeastBins(c fit) int {
	least := len(c.sizes)
	var put func(i int, lefts []int64)
	put = func(i int, lefts []int64) {
		if i == len(c.sizes) {
			least = min(least, len(lefts))
			return
		}
		for bin := range lefts {
			if lefts[bin] >= c.sizes[i] {
				lefts[bin] -= c.sizes[i]
				put(i+1, lefts)
				lefts[bin] += c.sizes[i]
			}
		}
		if len(lefts)+1 <= least {
			put(i+1, append(append([]int64(nil), lefts...), c.room-c.sizes[i]))
		}
	}
	put(0, nil)
	return least
}

func manyFits(count int) []fit {
	state := sequence(5)
	var list []fit
	for _, c := range manyThings(count) {
		greatest := int64(0)
		for _, size := range c.sizes {
			greatest = max(greatest, size)
		}
		list = append(list, fit{c.sizes, min(1000, greatest+int64(state.below(int(2*greatest))))})
	}
	return list
}

// TestBinsAreThoseOfTheModel is also about promise 5: no bins are fewer than
// the least ones, those of the rule included.
func TestBinsAreThoseOfTheModel(t *testing.T) {
	fewer := 0
	for _, c := range manyFits(960) {
		what := fmt.Sprint(" of ", c)
		wantText(t, "FirstBins"+what, firstBinsText(c), modelFirstBins(c))
		if len(c.sizes) > 10 {
			wantText(t, "LeastBins"+what, leastBinsText(c), "0 false")
			continue
		}
		least := modelLeastBins(c)
		wantText(t, "LeastBins"+what, leastBinsText(c), fmt.Sprint(least, " true"))
		_, first, _ := impl.FirstBins(c.sizes, c.room)
		if first < int64(least) || (sumOfAll(c.sizes)+c.room-1)/c.room > int64(least) {
			t.Errorf("bins%s: got %d by the rule, and at least %d", what, first, least)
		}
		if first > int64(least) {
			fewer++
		}
	}
	if fewer == 0 {
		t.Errorf("the rule has always found the least number of bins")
	}
}

// modelHalves looks at all sets of things but the first one.
func modelHalves(sizes []int64) string {
	best, least := 0, int64(1<<62)
	for digits := range 1 << len(sizes) {
		if digits%2 == 1 {
			continue
		}
		difference := sumAt(sizes, digits) - sumAt(sizes, 1<<len(sizes)-1-digits)
		if difference < 0 {
			difference = -difference
		}
		if difference < least {
			best, least = digits, difference
		}
	}
	return fmt.Sprint(indicesIn(best), " ", least, " true")
}

func TestHalvesAreThoseOfTheModel(t *testing.T) {
	for _, c := range manyThings(320) {
		wantText(t, fmt.Sprint("BestHalves of ", c.sizes), halvesText(c.sizes), modelHalves(c.sizes))
	}
}

// manyFamilies returns families of 1 to 16 sets, of which some hold nothing, all,
// or the same.
func manyFamilies(count int) []family {
	state := sequence(6)
	var list []family
	for i := range count {
		c := family{n: int64(1 + state.below(1+i/16%16))}
		all := 1<<c.n - 1
		for range 1 + i%16 {
			set := state.below(all + 1)
			switch state.below(8) {
			case 0:
				set = 1 << state.below(int(c.n))
			case 1, 2:
				set &= state.below(all + 1)
			case 3:
				set &= state.below(all+1) & state.below(all+1)
			}
			switch state.below(40) {
			case 0:
				set = 0
			case 1:
				set = all
			}
			c.sets = append(c.sets, int64(set))
		}
		if i%3 == 0 {
			c.sets = partsOf(&state, c.n, len(c.sets))
		}
		list = append(list, c)
	}
	return list
}

// partsOf returns sets that cut all numbers below n to parts, once and once
// more, so that many of them hold each number just once.
func partsOf(state *sequence, n int64, count int) []int64 {
	sets := make([]int64, count)
	for range 2 {
		from, some := state.below(count), 1+state.below(count)
		for number := range n {
			sets[(from+state.below(some))%count] |= 1 << number
		}
	}
	return sets
}

// timesHeld returns how often each number below n is held by sets whose indices
// are digits of a number.
func timesHeld(c family, digits int) []int {
	times := make([]int, c.n)
	for i, set := range c.sets {
		for number := range times {
			if digits>>i&1 == 1 && set>>number&1 == 1 {
				times[number]++
			}
		}
	}
	return times
}

func leastAndMost(times []int) (int, int) {
	least, most := times[0], times[0]
	for _, x := range times {
		least, most = min(least, x), max(most, x)
	}
	return least, most
}

func modelGreedyCover(c family) string {
	var cover []int64
	digits := 0
	for {
		if least, _ := leastAndMost(timesHeld(c, digits)); least > 0 {
			return fmt.Sprint(cover, " true")
		}
		best, most := -1, 0
		for i := range c.sets {
			more := 0
			for number, times := range timesHeld(c, digits) {
				if times == 0 && c.sets[i]>>number&1 == 1 {
					more++
				}
			}
			if more > most {
				best, most = i, more
			}
		}
		if best < 0 {
			return "[] false"
		}
		cover = append(cover, int64(best))
		digits |= 1 << best
	}
}

// modelCovers returns the first one of the smallest covers, and how many sets of
// indices are exact.
func modelCovers(c family) (string, string) {
	best, exact := 0, 0
	for digits := range 1 << len(c.sets) {
		least, most := leastAndMost(timesHeld(c, digits))
		if least == 1 && most == 1 {
			exact++
		}
		if least > 0 && (best == 0 || bits.OnesCount(uint(digits)) < bits.OnesCount(uint(best))) {
			best = digits
		}
	}
	for _, set := range c.sets {
		if set == 0 {
			return fmt.Sprint(indicesIn(best), " ", best > 0), "0 false"
		}
	}
	return fmt.Sprint(indicesIn(best), " ", best > 0), fmt.Sprint(exact, " true")
}

// TestCoversAreThoseOfTheModel is also about promise 5: no cover is smaller than
// the least one, that of the rule included.
func TestCoversAreThoseOfTheModel(t *testing.T) {
	found, exact, smaller := 0, 0, 0
	for _, c := range manyFamilies(640) {
		what := fmt.Sprint(" of ", c)
		wantText(t, "GreedyCover"+what, greedyCoverText(c), modelGreedyCover(c))
		if len(c.sets) > 14 {
			continue
		}
		wantedLeast, wantedExact := modelCovers(c)
		wantText(t, "LeastCover"+what, leastCoverText(c), wantedLeast)
		wantText(t, "ExactCovers"+what, exactText(c), wantedExact)
		greedy, one := impl.GreedyCover(c.n, c.sets)
		least, two := impl.LeastCover(c.n, c.sets)
		if one != two || len(greedy) < len(least) {
			t.Errorf("covers%s: got %v, %v by the rule, and %v, %v", what, greedy, one, least, two)
		}
		if one {
			found++
		}
		if len(greedy) > len(least) {
			smaller++
		}
		if count, _ := impl.ExactCovers(c.n, c.sets); count > 1 {
			exact++
		}
	}
	if found < 50 || exact < 20 || smaller < 5 {
		t.Errorf("%d families have covers, %d several exact ones, and for %d the rule's one is greater", found, exact, smaller)
	}
}
