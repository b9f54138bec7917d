package tests

import (
	"fmt"
	"math"
	"strings"
	"testing"

	"loop.example/g01346/impl"
)

// This file is about promise 1 for chapter 7: every function returns for all
// arguments, modifies none of them, returns equal results for equal ones, and
// zero values where it fails.

// wholeArguments are the arguments besides rows.
type wholeArguments struct {
	integers           []int64
	numbers            []float32
	top, most, workers int64
	near               float32
}

func (s wholeArguments) text() string { return fmt.Sprintf("%.500s", fmt.Sprintf("%+v", s)) }

func outcomesOfWholes(r impl.Rows, s wholeArguments) []outcome {
	plan, gain, one := impl.WholePlan(r, s.top)
	count, two := impl.WholeCount(r, s.top)
	gap, three := impl.WholeGap(r, s.top, s.most, s.near)
	shared, four := impl.WholesShared([]impl.Rows{r, doubled(), r}, s.top, s.workers)
	rounded, five := impl.RoundedPlan(r, s.numbers)
	climbed, times, six := impl.ClimbPlan(r, s.integers, s.top)
	return []outcome{
		says("WholePlan", one, plan, gain), says("WholeCount", two, count), saysNumber("WholeGap", gap, three),
		saysList("WholesShared", shared, four), says("RoundedPlan", five, rounded), says("ClimbPlan", six, climbed, times),
	}
}

func outcomesOfDomains(domains [][]int64) []outcome {
	first, one := impl.FirstDiffer(domains)
	count, two := impl.CountDiffers(domains)
	narrow, three := impl.NarrowDiffers(domains)
	tight, four := impl.TightSets(domains)
	return []outcome{saysBool("AreDomains", impl.AreDomains(domains)), says("FirstDiffer", one, first), says("CountDiffers", two, count), says("NarrowDiffers", three, narrow), says("TightSets", four, tight)}
}

func outcomesOfBoards(n int64, cells []int64) []outcome {
	queens, one := impl.FirstQueens(n)
	boards, two := impl.CountQueens(n)
	square, three := impl.FillSquare(n, cells)
	count, four := impl.CountSquares(n, cells)
	return []outcome{says("FirstQueens", one, queens), says("CountQueens", two, boards), says("FillSquare", three, square), says("CountSquares", four, count)}
}

func outcomesOfTree(t impl.Tree) []outcome {
	best, way, one := impl.BestOfTree(t)
	worth, looks, two := impl.LooksOf(t)
	leaves, three := impl.LeavesOf(t)
	return []outcome{saysBool("ValidTree", impl.ValidTree(t)), saysBool("SameTree", impl.SameTree(t, copyTree(t))), says("BestOfTree", one, best, way), says("LooksOf", two, worth, looks), says("LeavesOf", three, leaves)}
}

func outcomesOfCase(c impl.Case) []outcome {
	bytes, one := impl.StoreCase(c)
	all, two := impl.StoreCases([]impl.Case{c, stageCase(), c})
	return []outcome{
		saysBool("ValidCase", impl.ValidCase(c)), saysBool("SameCases", impl.SameCases([]impl.Case{c}, []impl.Case{copyCase(c)})),
		{"StoreCase", bytes, "", one}, {"StoreCases", all, "", two},
	}
}

func outcomesOfBytes(s string) []outcome {
	c, one := impl.LoadCase(s)
	list, length, two := impl.RecoverCases(s)
	return []outcome{{"LoadCase", fmt.Sprint(c), fmt.Sprint(impl.Case{}), one}, {"RecoverCases", fmt.Sprint(list, length), "", two}}
}

func edgeNumbersOfTrees() []int64 {
	return []int64{0, 1, 2, 3, 4, 5, 6, 7, 8, 9, 10, 31, 32, 63, 64, 65, 999999, 1000000, 1000001, -1, -2, -1000000, 1 << 32, 1<<32 + 1, math.MaxInt64, math.MinInt64}
}

func edgeListsOfTrees() [][]int64 {
	lists := [][]int64{nil, {}, make([]int64, 4), make([]int64, 8), make([]int64, 16), make([]int64, 25), repeat(5000, int64(1)), ints(1, 2, 2, 1), ints(0, 0), ints(1, 0, 1), ints(5, 5, 5, 5)}
	for _, n := range edgeNumbersOfTrees() {
		lists = append(lists, ints(n), ints(0, n), ints(n, 0, 1, n))
	}
	return lists
}

func TestFunctionsOfWholePlansAlwaysReturn(t *testing.T) {
	state := sequence(68)
	numbers, edges, lists := edgeNumbersOfTrees(), edgeNumbers(), edgeListsOfTrees()
	some := func() int64 { return numbers[state.below(len(numbers))] }
	for i, r := range append(edgeRows(), manySmallRows(100)...) {
		all, bounds, gains := keep(r.Numbers, 78), keep(r.Bounds, 79), keep(r.Gains, 80)
		same := impl.Rows{Vars: r.Vars, Numbers: all.list, Bounds: bounds.list, Gains: gains.list}
		points := edgePoints(int(min(max(r.Vars, -1), 5001)))
		for k := range 6 {
			x, point := keep(lists[state.below(len(lists))], 76), keep(points[(i+k)%len(points)], 77)
			s := wholeArguments{x.list, point.list, some(), some(), some(), edges[state.below(len(edges))]}
			if k%2 == 0 {
				s.top, s.most, s.workers, s.near = int64(1+state.below(5)), 64, int64(1+state.below(8)), 0
				x = keep(repeat(int(min(max(r.Vars, 0), 9)), int64(state.below(3))), 76)
				s.integers = x.list
			}
			first, again := outcomesOfWholes(same, s), outcomesOfWholes(same, s)
			checkOutcomes(t, rowsText(r)+s.text(), first, again)
			x.is(t, "a function of whole plans")
			point.is(t, "a function of whole plans")
		}
		for _, k := range []kept[float32]{all, bounds, gains} {
			k.is(t, "a function of whole plans")
		}
	}
}

func TestWholesSharedLeavesItsListAsItIs(t *testing.T) {
	list := keep([]impl.Rows{doubled(), exampleRows()}, looseRows(1))
	for _, workers := range []int64{1, 2, 8, 9} {
		impl.WholesShared(list.list, 5, workers)
		list.is(t, "WholesShared")
	}
}

func TestFunctionsOfDomainsAlwaysReturn(t *testing.T) {
	for _, domains := range append(append(rightDomains(), wrongDomains()...), manyDomains(300)...) {
		var inner []kept[int64]
		var list [][]int64
		for _, domain := range domains {
			inner = append(inner, keep(domain, 77))
			list = append(list, inner[len(inner)-1].list)
		}
		k := keep(list, ints(88))
		first, again := outcomesOfDomains(k.list), outcomesOfDomains(k.list)
		checkOutcomes(t, fmt.Sprintf("%.300s", fmt.Sprint(domains)), first, again)
		k.is(t, "a function of domains")
		for _, domain := range inner {
			domain.is(t, "a function of domains")
		}
	}
}

func TestFunctionsOfBoardsAlwaysReturn(t *testing.T) {
	squares := append(wrongSquares(), manySquares(300)...)
	for _, n := range edgeNumbersOfTrees() {
		for _, cells := range edgeListsOfTrees() {
			squares = append(squares, squareCase{n, cells})
		}
	}
	for _, c := range squares {
		if c.n == 8 && len(c.cells) > 1 {
			continue // the queens of the largest board are counted often enough
		}
		k := keep(c.cells, 77)
		first, again := outcomesOfBoards(c.n, k.list), outcomesOfBoards(c.n, k.list)
		checkOutcomes(t, fmt.Sprintf("%.200s", fmt.Sprint(c)), first, again)
		k.is(t, "a function of boards")
	}
}

func TestFunctionsOfTreesAlwaysReturn(t *testing.T) {
	for _, tree := range append(append(rightTrees(), wrongTrees()...), manyTrees(500)...) {
		parents, values := keep(tree.Parents, 77), keep(tree.Values, 78)
		same := impl.Tree{Parents: parents.list, Values: values.list}
		first, again := outcomesOfTree(same), outcomesOfTree(same)
		checkOutcomes(t, fmt.Sprintf("%.300s", fmt.Sprint(tree)), first, again)
		parents.is(t, "a function of trees")
		values.is(t, "a function of trees")
	}
}

func TestFunctionsOfCasesAlwaysReturn(t *testing.T) {
	for _, c := range append(append(rightCases(), wrongCases()...), manyCases(200)...) {
		form, proof := keepForm(c.Form), keepForm(impl.Form{Clauses: c.Proof})
		same := impl.Case{Name: c.Name, Form: form.form, Proof: proof.form.Clauses}
		first, again := outcomesOfCase(same), outcomesOfCase(same)
		checkOutcomes(t, fmt.Sprintf("%.300s", fmt.Sprint(c)), first, again)
		form.is(t, "a function of cases")
		proof.is(t, "a function of cases")
	}
	list := keep([]impl.Case{stageCase(), fullCase()}, caseOf("behind", formOf(1)))
	impl.StoreCases(list.list)
	impl.SameCases(list.list, list.list[:1])
	list.is(t, "a function of lists of cases")
}

func TestFunctionsOfBytesAlwaysReturn(t *testing.T) {
	texts := append(wrongBodies(), edgeTexts()...)
	for _, c := range append(rightCases(), manyCases(60)...) {
		bytes, _ := impl.StoreCase(c)
		texts = append(texts, bytes, bytes[:len(bytes)/2], bytes+bytes, bytes+bytes[1:], bytes[:4]+strings.Repeat("\xff", 300), bytes[:len(bytes)-2])
	}
	for _, s := range texts {
		first, again := outcomesOfBytes(s), outcomesOfBytes(s)
		checkOutcomes(t, fmt.Sprintf("%.99q", s), first, again)
		wantBool(t, fmt.Sprintf("RecoverCases %.99q", s), first[1].ok, true)
	}
}

// TestAllFunctionsOfChapter7Succeed wants that none fails where all arguments are
// as they must be, with numbers at the limits, and there is what it looks for.
func TestAllFunctionsOfChapter7Succeed(t *testing.T) {
	succeed := func(what string, outcomes []outcome) {
		for _, o := range outcomes {
			wantBool(t, o.name+" of "+what, o.ok, true)
		}
	}
	most := num(bitsMost)
	for _, r := range []impl.Rows{doubled(), oneRow(0, []float32{1}, []float32{most}), oneRow(most, repeat(4, most), repeat(4, float32(-1))), oneRow(num(bitsMinusZero), repeat(3, most), repeat(3, -most))} {
		for _, top := range []int64{1, 5} {
			for _, workers := range []int64{1, 8} {
				s := wholeArguments{make([]int64, r.Vars), repeat(int(r.Vars), float32(1000000)), top, 64, workers, 0}
				succeed(rowsText(r)+s.text(), outcomesOfWholes(r, s))
			}
		}
	}
	for _, domains := range [][][]int64{lists(ints(0)), lists(ints(31)), repeat(6, numbersTo(8)), lists(ints(0), ints(31))} {
		succeed(fmt.Sprint(domains), outcomesOfDomains(domains))
	}
	succeed("one cell", outcomesOfBoards(1, ints(0)))
	succeed("four rows", outcomesOfBoards(4, make([]int64, 16)))
	for _, tree := range rightTrees() {
		succeed(fmt.Sprint(tree), outcomesOfTree(tree))
	}
	for _, c := range rightCases() {
		succeed(fmt.Sprint(c), outcomesOfCase(c))
		succeed(fmt.Sprint("the bytes of ", c), outcomesOfBytes(modelBytes(c)))
	}
}

// TestInvalidArgumentsMakeFunctionsOfChapter7Fail wants that where one thing is
// wrong; SameTree and SameCases take all, and RecoverCases never fails.
func TestInvalidArgumentsMakeFunctionsOfChapter7Fail(t *testing.T) {
	fail := func(what string, outcomes []outcome) {
		for _, o := range outcomes {
			takesAll := o.name == "SameTree" || o.name == "SameCases"
			wantBool(t, o.name+" of "+what, o.ok, takesAll)
		}
	}
	for _, r := range invalidRows() {
		n := len(r.Gains)
		s := wholeArguments{make([]int64, n), repeat(n, float32(1)), 1, 64, 1, 0}
		fail(rowsText(r), outcomesOfWholes(r, s))
	}
	for _, domains := range wrongDomains() {
		fail(fmt.Sprintf("%.99s", fmt.Sprint(domains)), outcomesOfDomains(domains))
	}
	for _, tree := range wrongTrees() {
		fail(fmt.Sprintf("%.99s", fmt.Sprint(tree)), outcomesOfTree(tree))
	}
	for _, c := range wrongCases() {
		fail(fmt.Sprintf("%.99s", fmt.Sprint(c)), outcomesOfCase(c))
	}
}

// allToldOfTrees calls all functions of chapter 7 that return slices of integers.
func allToldOfTrees(r impl.Rows, x []int64, point []float32, domains [][]int64, cells []int64, tree impl.Tree, bytes string) []told {
	plan, _, _ := impl.WholePlan(r, 5)
	rounded, _ := impl.RoundedPlan(r, point)
	climbed, _, _ := impl.ClimbPlan(r, x, 5)
	same, _, _ := impl.ClimbPlan(r, climbed, 5)
	first, _ := impl.FirstDiffer(domains)
	narrow, _ := impl.NarrowDiffers(domains)
	tight, _ := impl.TightSets(domains)
	queens, _ := impl.FirstQueens(4)
	square, _ := impl.FillSquare(2, cells)
	full, _ := impl.FillSquare(2, square)
	_, way, _ := impl.BestOfTree(tree)
	leaves, _ := impl.LeavesOf(tree)
	all := []told{
		{"WholePlan", plan}, {"RoundedPlan", rounded}, {"ClimbPlan", climbed}, {"ClimbPlan, unchanged", same}, {"FirstDiffer", first},
		{"TightSets", tight}, {"FirstQueens", queens}, {"FillSquare", square}, {"FillSquare, unchanged", full}, {"BestOfTree", way}, {"LeavesOf", leaves},
	}
	for _, domain := range narrow {
		all = append(all, told{"NarrowDiffers", domain})
	}
	c, _ := impl.LoadCase(bytes)
	for _, clause := range append(c.Form.Clauses[:1:1], c.Proof[0]) {
		all = append(all, told{"LoadCase", clause})
	}
	cases, _, _ := impl.RecoverCases(bytes + bytes)
	return append(all, told{"RecoverCases", cases[0].Proof[0]}, told{"RecoverCases", cases[1].Proof[0]}, told{"RecoverCases", cases[1].Form.Clauses[2]})
}

func TestResultsOfChapter7ShareNothing(t *testing.T) {
	r, x, point, domains, cells, tree := exampleRows(), ints(0, 1), []float32{2.5, 1}, lists(ints(1, 2), ints(2, 3), ints(7)), ints(0, 2, 0, 0), stageTree()
	bytes, _ := impl.StoreCase(caseOf("proof", never(), ints(-1), nil))
	call := func() []told { return allToldOfTrees(r, x, point, domains, cells, tree, bytes) }
	arguments := func() string { return fmt.Sprint(rowsText(r), x, point, domains, cells, tree) }
	all := call()
	was := fmt.Sprint(all)
	wantUnshared(t, all, arguments)
	wantText(t, "results of the same again", fmt.Sprint(call()), was)
}

// TestListsOfListsShareNothing overwrites whole rows and clauses, and lists of
// gains.
func TestListsOfListsShareNothing(t *testing.T) {
	domains := lists(ints(1, 2), ints(2, 3))
	narrow, _ := impl.NarrowDiffers(domains)
	overwrite(narrow, ints(9))
	again, _ := impl.NarrowDiffers(domains)
	wantText(t, "NarrowDiffers", fmt.Sprint(domains, again), "[[1 2] [2 3]] [[1 2] [2 3]]")
	bytes, _ := impl.StoreCase(caseOf("proof", never(), ints(-1), nil))
	one, _, _ := impl.RecoverCases(bytes + bytes)
	want := fmt.Sprint(one[1])
	overwrite(one[0].Form.Clauses, ints(9))
	overwrite(one[0].Proof, ints(9))
	overwrite(one[:1:1], impl.Case{})
	wantText(t, "RecoverCases", fmt.Sprint(one[1]), want)
	loaded, _ := impl.LoadCase(bytes)
	overwrite(loaded.Form.Clauses, ints(9))
	wantText(t, "the proof", fmt.Sprint(loaded.Proof), "[[-1] []]")
	overwrite(loaded.Proof, ints(9))
	wantText(t, "LoadCase", loadText(bytes), want+" true")
	rows := []impl.Rows{doubled(), doubled()}
	gains, _ := impl.WholesShared(rows, 5, 2)
	overwrite(gains, 9)
	wantText(t, "WholesShared", wholesText(rows, 5, 2), floats(2, 2))
}
