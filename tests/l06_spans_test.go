package tests

import (
	"fmt"
	"math"
	"testing"

	"loop.example/g01346/impl"
)

func span(from, to, gain int64) impl.Span { return impl.Span{From: from, To: to, Gain: gain} }

// spansOf are spans, each told by its From, its To and its Gain.
func spansOf(numbers ...int64) []impl.Span {
	var spans []impl.Span
	for i := 0; i < len(numbers); i += 3 {
		spans = append(spans, span(numbers[i], numbers[i+1], numbers[i+2]))
	}
	return spans
}

func rightSpans() [][]impl.Span {
	return [][]impl.Span{
		spansOf(0, 1, 0), spansOf(0, 100000, 1000), spansOf(99999, 100000, 1), repeat(64, span(0, 100000, 1000)), spansOf(0, 2, 1, 2, 3, 1, 0, 3, 5),
	}
}

// wrongSpans are lists, in each of which one thing is wrong.
func wrongSpans() [][]impl.Span {
	list := [][]impl.Span{nil, {}, repeat(65, span(0, 1, 0)), repeat(5000, span(0, 1, 0))}
	good := span(0, 1, 0)
	wrong := []impl.Span{{}, span(1, 1, 0), span(2, 1, 0), span(100000, 100000, 0), span(0, 100001, 0), span(100000, 100001, 0), span(100001, 100002, 0), span(0, 1, 1001), span(5, 0, 0)}
	for _, n := range []int64{-1, math.MinInt64, math.MaxInt64, 1 << 32, 1<<32 + 1} {
		wrong = append(wrong, span(n, 5, 1), span(0, n, 1), span(0, 5, n), span(n, n, 0), span(n, n+1, 0))
	}
	for _, s := range wrong {
		list = append(list, []impl.Span{s}, []impl.Span{good, s}, []impl.Span{s, good}, append(repeat(63, good), s))
	}
	return list
}

func mostSpansText(spans []impl.Span) string { return listText(impl.MostSpans(spans)) }
func bestSpansText(spans []impl.Span) string { return bothText(impl.BestSpans(spans)) }
func roomsText(spans []impl.Span) string     { return bothText(impl.RoomsOf(spans)) }

func TestAreSpans(t *testing.T) {
	for _, spans := range rightSpans() {
		wantBool(t, fmt.Sprint("AreSpans ", spans), impl.AreSpans(spans), true)
	}
	for _, spans := range wrongSpans() {
		what := fmt.Sprintf(" of %.99s", fmt.Sprint(spans))
		wantBool(t, "AreSpans"+what, impl.AreSpans(spans), false)
		wantText(t, "MostSpans"+what, mostSpansText(spans), "[] false")
		wantText(t, "BestSpans"+what, bestSpansText(spans), "[] 0 false")
		wantText(t, "RoomsOf"+what, roomsText(spans), "[] 0 false")
	}
}

func TestSpans(t *testing.T) {
	for _, c := range []struct {
		what              string
		spans             []impl.Span
		most, best, rooms string
	}{
		{"one span", spansOf(3, 9, 4), "[0] true", "[0] 4 true", "[0] 1 true"},
		{"one span without a gain", spansOf(3, 9, 0), "[0] true", "[] 0 true", "[0] 1 true"},
		{"spans that touch do not meet", spansOf(0, 2, 1, 2, 3, 1), "[0 1] true", "[0 1] 2 true", "[0 0] 1 true"},
		{"the latter one first", spansOf(2, 3, 1, 0, 2, 1), "[0 1] true", "[0 1] 2 true", "[0 0] 1 true"},
		{"spans that meet by 1", spansOf(0, 3, 1, 2, 4, 1), "[0] true", "[0] 1 true", "[0 1] 2 true"},
		{"the stage's example", spansOf(0, 2, 1, 2, 3, 1, 0, 3, 5), "[0 1] true", "[2] 5 true", "[0 0 1] 2 true"},
		{"equal spans", spansOf(1, 4, 2, 1, 4, 2, 1, 4, 2), "[0] true", "[0] 2 true", "[0 1 2] 3 true"},
		{"equal spans, a later one with a greater gain", spansOf(1, 4, 2, 1, 4, 3, 1, 4, 3), "[0] true", "[1] 3 true", "[0 1 2] 3 true"},
		{"equal ends: the first one", spansOf(3, 5, 1, 1, 5, 1, 4, 5, 1), "[0] true", "[0] 1 true", "[1 0 2] 3 true"},
		{"equal ends: two rather than a longer one that is first", spansOf(0, 5, 1, 3, 5, 1, 0, 3, 1), "[1 2] true", "[1 2] 2 true", "[0 1 1] 2 true"},
		{"one in another one", spansOf(0, 9, 1, 3, 4, 1), "[1] true", "[1] 1 true", "[0 1] 2 true"},
		{"one in another one with a greater gain", spansOf(0, 9, 2, 3, 4, 1), "[1] true", "[0] 2 true", "[0 1] 2 true"},
		{"many little ones in a great one", spansOf(0, 9, 3, 0, 3, 1, 3, 6, 1, 6, 9, 1), "[1 2 3] true", "[0] 3 true", "[0 1 1 1] 2 true"},
		{"many little ones in a great one that is last", spansOf(0, 3, 1, 3, 6, 1, 6, 9, 1, 0, 9, 3), "[0 1 2] true", "[0 1 2] 3 true", "[0 0 0 1] 2 true"},
		{"as great a gain in a later one: the first ones stay", spansOf(0, 3, 2, 2, 5, 2), "[0] true", "[0] 2 true", "[0 1] 2 true"},
		{"as great a gain in a later one that takes the place of two", spansOf(0, 2, 1, 2, 4, 1, 0, 5, 2), "[0 1] true", "[0 1] 2 true", "[0 0 1] 2 true"},
		{"those that end at the From count", spansOf(0, 2, 5, 1, 3, 6, 3, 4, 1, 2, 5, 3), "[0 2] true", "[0 3] 8 true", "[0 1 1 0] 2 true"},
		{"a gain of 0 between others", spansOf(0, 2, 5, 2, 4, 0, 4, 6, 5), "[0 1 2] true", "[0 2] 10 true", "[0 0 0] 1 true"},
		{"the least room, not that of the last one", spansOf(0, 5, 1, 1, 3, 1, 2, 9, 1, 6, 8, 1), "[1 3] true", "[1 3] 2 true", "[0 1 2 0] 3 true"},
		{"equal begins: the first one gets the lesser room", spansOf(4, 9, 0, 4, 5, 0, 0, 4, 0), "[1 2] true", "[] 0 true", "[0 1 0] 2 true"},
		{"rooms are told by index", spansOf(5, 9, 0, 0, 6, 0), "[1] true", "[] 0 true", "[1 0] 2 true"},
		{"times at the limits", spansOf(0, 1, 1000, 99999, 100000, 1000, 0, 100000, 1000), "[0 1] true", "[0 1] 2000 true", "[0 0 1] 2 true"},
	} {
		wantText(t, "MostSpans, "+c.what, mostSpansText(c.spans), c.most)
		wantText(t, "BestSpans, "+c.what, bestSpansText(c.spans), c.best)
		wantText(t, "RoomsOf, "+c.what, roomsText(c.spans), c.rooms)
	}
}

func TestMostSpansThatCanBe(t *testing.T) {
	all, row := numbersTo(64), []impl.Span{}
	for i := range int64(64) {
		row = append(row, span(i, i+1, 1000))
	}
	wantText(t, "MostSpans in a row", mostSpansText(row), fmt.Sprint(all, " true"))
	wantText(t, "BestSpans in a row", bestSpansText(row), fmt.Sprint(all, " 64000 true"))
	wantText(t, "RoomsOf in a row", roomsText(row), fmt.Sprint(repeat(64, 0), " 1 true"))
	equal := repeat(64, span(0, 100000, 1000))
	wantText(t, "MostSpans of equal ones", mostSpansText(equal), "[0] true")
	wantText(t, "BestSpans of equal ones", bestSpansText(equal), "[0] 1000 true")
	wantText(t, "RoomsOf equal ones", roomsText(equal), fmt.Sprint(all, " 64 true"))
}
