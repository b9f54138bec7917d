package tests

import (
	"fmt"
	"math"
	"strings"
	"testing"

	"loop.example/g01346/impl"
)

// This file is about promise 1 for chapter 1: every function returns for all
// arguments, modifies none of them, and returns equal results for equal ones.

// callsOnNumbers tells the results of all functions of numbers that are not in
// lists, with all not-a-numbers told alike.
func callsOnNumbers(x, y float32) []string {
	z, w := complex(x, y), complex(y, x)
	wide := complex(float64(x)*1.1, float64(y)/3)
	tenths, ok := impl.TenthsOf(x)
	return []string{
		fmt.Sprint(impl.SameNumber(x, y), impl.IsFinite(x), impl.BitsOf(x), impl.IsSubnormal(x), tenths, ok),
		hex(impl.NarrowNumber(float64(x) * 1.1)), hex(impl.FlushNumber(x)),
		fmt.Sprint(impl.SameComplex(z, w), impl.IsFiniteComplex(z)),
		hexComplex(impl.NarrowComplex(wide)), hexComplex(impl.MulComplex(z, w)), hexComplex(impl.ScaleComplex(z, y)),
		hexComplex(impl.ConjugateOf(z)), hexComplex(impl.QuotientOf(z, w)), hexComplex(impl.PhasorOf(float64(x) + float64(y)/7)),
		hex(impl.PowerOf(z)), hex(impl.LongOf(z)), hex(impl.AngleOf(z)), hex(impl.SineTurns(x)), hex(impl.AngleTurns(x, y)),
		hex(impl.RootNumber(x)), hex(impl.ExpNumber(x)), hex(impl.LogNumber(x)),
	}
}

func TestNumbersAlwaysReturn(t *testing.T) {
	for _, x := range edgeNumbers() {
		for _, y := range edgeNumbers() {
			first, again := callsOnNumbers(x, y), callsOnNumbers(x, y)
			if strings.Join(first, " ") != strings.Join(again, " ") {
				t.Errorf("%s %s: got %v, then %v", hex(x), hex(y), first, again)
			}
		}
	}
}

// TestNotANumbersAreOne wants the same results for all bits of not-a-numbers.
func TestNotANumbersAreOne(t *testing.T) {
	for _, y := range edgeNumbers() {
		want := fmt.Sprint(callsOnNumbers(num(bitsNaN), y), callsOnNumbers(y, num(bitsNaN)))
		for _, bits := range []uint32{0xffc00000, 0x7f800001, 0xff800001, 0x7fffffff, 0xffffffff, 0x7fc12345} {
			if got := fmt.Sprint(callsOnNumbers(num(bits), y), callsOnNumbers(y, num(bits))); got != want {
				t.Errorf("%08x and %s: got %s, want %s", bits, hex(y), got, want)
			}
		}
	}
}

func callsOnWide(x float64) []string {
	wide := []float64{x, -x, x * x, 1 / x, x + 0.5}
	var told []string
	for _, y := range wide {
		told = append(told, hex(impl.NarrowNumber(y)), hexComplex(impl.PhasorOf(y)), hexComplex(impl.NarrowComplex(complex(y, x))))
	}
	return told
}

func TestWideNumbersAlwaysReturn(t *testing.T) {
	for _, x := range []float64{
		0, math.Copysign(0, -1), 5e-324, 0x1p-1022, 0x1p-150, 0.25, math.Nextafter(0.25, 0), 0.5, math.Nextafter(1, 0), 1,
		0x1p51, 0x1p52 - 0.5, 0x1p52, 0x1p53, 0x1p62, 0x1p63, 0x1p64, 1e300, math.MaxFloat64, math.Inf(1), math.Inf(-1), math.NaN(),
	} {
		if first, again := fmt.Sprint(callsOnWide(x)), fmt.Sprint(callsOnWide(x)); first != again {
			t.Errorf("%v: got %s, then %s", x, first, again)
		}
	}
}

// kept holds a list with room behind it, and how all of it was.
type kept[T any] struct {
	list []T
	was  string
}

func keep[T any](list []T, behind T) kept[T] {
	all := append(append(make([]T, 0, len(list)+3), list...), behind, behind, behind)
	return kept[T]{all[:len(list)], fmt.Sprint(all)}
}

func (k kept[T]) is(t *testing.T, what string) {
	t.Helper()
	if now := fmt.Sprint(k.list[:len(k.list)+3]); now != k.was {
		t.Errorf("%s modified its argument: %.80s became %.80s", what, k.was, now)
	}
}

func numberLists() [][]float32 {
	edges := edgeNumbers()
	return [][]float32{nil, {1}, {num(bitsMinusZero)}, edges, repeat(256, float32(3)), repeat(257, float32(3)), repeat(5000, num(bitsNaN))}
}

func callsOnLists(a, b []float32) string {
	sum, one := impl.SumNumbers(a)
	dot, two := impl.DotNumbers(a, b)
	text, three := impl.NumbersText(a)
	return fmt.Sprint(hex(sum), one, hex(dot), two, text, three)
}

func TestNumberListsStay(t *testing.T) {
	for _, x := range numberLists() {
		for _, y := range numberLists() {
			a, b := keep(x, 77), keep(y, 78)
			first, again := callsOnLists(a.list, b.list), callsOnLists(a.list, b.list)
			wantText(t, "the second time", again, first)
			a.is(t, "a function of numbers")
			b.is(t, "a function of numbers")
		}
	}
}

func callsOnComplexLists(a, b []complex64) string {
	sum, one := impl.SumComplex(a)
	dot, two := impl.DotComplex(a, b)
	conjugate, three := impl.DotConjugate(a, b)
	powers, four := impl.PowersOf(a)
	text, five := impl.ComplexText(a)
	return fmt.Sprint(hexComplex(sum), one, hexComplex(dot), two, hexComplex(conjugate), three, hex(powers), four, text, five)
}

func TestComplexListsStay(t *testing.T) {
	var lists [][]complex64
	for i, x := range numberLists() {
		var list []complex64
		for k, re := range x {
			list = append(list, complex(re, x[(k*5+i)%len(x)]))
		}
		lists = append(lists, list)
	}
	for _, x := range lists {
		for _, y := range lists {
			a, b := keep(x, 77), keep(y, complex(0, 78))
			first, again := callsOnComplexLists(a.list, b.list), callsOnComplexLists(a.list, b.list)
			wantText(t, "the second time", again, first)
			a.is(t, "a function of complex numbers")
			b.is(t, "a function of complex numbers")
		}
	}
}

func TestIntegerListsStay(t *testing.T) {
	for _, list := range [][]int64{nil, {0}, edgeIntegers(), edgeIntegers()[:6], repeat(64, int64(-1)), repeat(65, int64(-1)), repeat(5000, int64(1))} {
		a := keep(list, 77)
		first, one := impl.ListText(a.list)
		again, two := impl.ListText(a.list)
		if first != again || one != two {
			t.Errorf("ListText %v: got %q, %v, then %q, %v", list, first, one, again, two)
		}
		a.is(t, "ListText")
	}
	for _, n := range edgeIntegers() {
		x, one := impl.FromBits(n)
		y, two := impl.FromBits(n)
		if one != two || hex(x) != hex(y) || impl.Decimal(n) != impl.Decimal(n) {
			t.Errorf("%d does not tell the same twice", n)
		}
	}
}

func callsOnText(s string) string {
	numbers, one := impl.ReadNumbers(s)
	pairs, two := impl.ReadComplex(s)
	n, three := impl.ReadDecimal(s)
	list, four := impl.ReadList(s)
	told := fmt.Sprint(one, two, n, three, list, four, impl.IsName(s))
	for _, start := range edgeIntegers() {
		check, ok := impl.CheckOf(start, s)
		told += fmt.Sprint(" ", check, ok)
	}
	return told + fmt.Sprint(len(numbers), len(pairs), numbers, pairs)
}

func TestTextsAlwaysReturn(t *testing.T) {
	texts := append(edgeTexts(), nearTexts()...)
	for _, s := range texts {
		wantText(t, "the second time", callsOnText(s), callsOnText(s))
		for i := range len(s) {
			if i < 40 {
				part, other := s[:i], s[:i]+"\xfe"+s[i+1:]
				wantText(t, "the second time", callsOnText(part), callsOnText(part))
				wantText(t, "the second time", callsOnText(other), callsOnText(other))
			}
		}
	}
}

// overwrite fills a list and all the room behind it.
func overwrite[T any](list []T, by T) {
	list = list[:cap(list)]
	for i := range list {
		list[i] = by
	}
}

// TestReadersShareNothing changes a result, and wants the next one unchanged.
func TestReadersShareNothing(t *testing.T) {
	for _, n := range []int{1, 2, 5, 64} {
		numbers := strings.Repeat("3f800000,", n-1) + "40000000"
		pairs := strings.Repeat("3f800000c0000000,", n-1) + "4000000000000000"
		list := strings.Repeat("12,", n-1) + "-3"
		a, _ := impl.ReadNumbers(numbers)
		b, _ := impl.ReadComplex(pairs)
		c, _ := impl.ReadList(list)
		more, _ := impl.ReadNumbers(numbers)
		overwrite(a, 9)
		overwrite(b, 9)
		overwrite(c, 9)
		for range 2 {
			text, _ := impl.NumbersText(more)
			wantText(t, "ReadNumbers", text, numbers)
			more, _ = impl.ReadNumbers(numbers)
		}
		pairsAgain, _ := impl.ReadComplex(pairs)
		text, _ := impl.ComplexText(pairsAgain)
		wantText(t, "ReadComplex", text, pairs)
		listAgain, _ := impl.ReadList(list)
		text, _ = impl.ListText(listAgain)
		wantText(t, "ReadList", text, list)
	}
	a, _ := impl.ReadNumbers("none")
	overwrite(a, 9)
	if b, ok := impl.ReadNumbers("none"); !ok || len(b) != 0 {
		t.Errorf("ReadNumbers none: got %v, %v", b, ok)
	}
}
