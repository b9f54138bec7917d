package tests

import (
	"testing"

	"loop.example/g01346/impl"
)

func TestSumNumbers(t *testing.T) {
	inf := num(bitsInf)
	for _, c := range []struct {
		list []float32
		want uint32
	}{
		{nil, bitsZero}, {[]float32{}, bitsZero},
		{[]float32{1, 2, 3.5}, 0x40d00000},
		{[]float32{num(bitsMinusZero)}, bitsZero}, // the sum begins with +0
		{[]float32{16777216, 1, 1}, 0x4b800000},   // each 1 is lost in turn
		{[]float32{1, 1, 16777216}, 0x4b800001},
		{[]float32{num(bitsLeast), num(bitsLeast)}, 2},
		{[]float32{num(bitsMost), num(bitsMost), -num(bitsMost)}, bitsInf},
		{[]float32{inf, -inf, 1}, bitsNaN}, {[]float32{1, num(bitsNaN)}, bitsNaN},
		{repeat(impl.MaxNumbers, float32(0.5)), 0x43000000},
		{repeat(impl.MaxNumbers, float32(0.1)), 0x41cccced},
	} {
		got, ok := impl.SumNumbers(c.list)
		wantBool(t, "SumNumbers", ok, true)
		wantNumber(t, "SumNumbers", got, c.want)
	}
	got, ok := impl.SumNumbers(repeat(impl.MaxNumbers+1, float32(1)))
	wantBool(t, "SumNumbers of too many", ok, false)
	wantNumber(t, "SumNumbers of too many", got, bitsZero)
}

func TestDotNumbers(t *testing.T) {
	// x x is 1 + 2^-11 + 2^-24, which is rounded before it is added.
	x, y := 1+num(0x39800000), 1+num(0x3a000000)
	inf := num(bitsInf)
	for _, c := range []struct {
		a, b []float32
		want uint32
	}{
		{nil, []float32{}, bitsZero},
		{[]float32{1, 2}, []float32{3, 4}, 0x41300000},
		{[]float32{-y, x}, []float32{1, x}, bitsZero},
		{[]float32{x, -y}, []float32{x, 1}, bitsZero},
		{[]float32{16777216, 1, 1}, []float32{1, 1, 1}, 0x4b800000},
		{[]float32{1, 1, 16777216}, []float32{1, 1, 1}, 0x4b800001},
		{[]float32{-1}, []float32{0}, bitsZero},
		{[]float32{num(bitsMost), 1}, []float32{2, -inf}, bitsNaN},
		{[]float32{num(bitsLeast)}, []float32{0.5}, bitsZero},
		{[]float32{0}, []float32{inf}, bitsNaN},
		{repeat(impl.MaxNumbers, float32(2)), repeat(impl.MaxNumbers, float32(3)), 0x44c00000},
	} {
		got, ok := impl.DotNumbers(c.a, c.b)
		wantBool(t, "DotNumbers", ok, true)
		wantNumber(t, "DotNumbers", got, c.want)
	}
	many := repeat(impl.MaxNumbers+1, float32(1))
	for _, c := range [][2][]float32{{{1}, nil}, {nil, {1}}, {{1, 2}, {1}}, {many, many}, {many, many[1:]}, {many[1:], many}} {
		got, ok := impl.DotNumbers(c[0], c[1])
		wantBool(t, "DotNumbers of invalid lists", ok, false)
		wantNumber(t, "DotNumbers of invalid lists", got, bitsZero)
	}
}

func TestSumComplex(t *testing.T) {
	inf, zero := num(bitsInf), num(bitsMinusZero)
	for _, c := range []struct {
		list   []complex64
		re, im uint32
	}{
		{nil, bitsZero, bitsZero},
		{[]complex64{1, complex(2, 3)}, 0x40400000, 0x40400000},
		{[]complex64{complex(zero, zero)}, bitsZero, bitsZero},
		{[]complex64{complex(16777216, 1), complex(1, 1), complex(1, 16777216)}, 0x4b800000, 0x4b800001},
		{[]complex64{complex(inf, 1), complex(-inf, 2)}, bitsNaN, 0x40400000},
		{[]complex64{complex(1, num(bitsMost)), complex(1, num(bitsMost))}, 0x40000000, bitsInf},
		{repeat(impl.MaxNumbers, complex64(complex(1, -1))), 0x43800000, 0xc3800000},
	} {
		got, ok := impl.SumComplex(c.list)
		wantBool(t, "SumComplex", ok, true)
		wantComplex(t, "SumComplex", got, c.re, c.im)
	}
	got, ok := impl.SumComplex(repeat(impl.MaxNumbers+1, complex64(1)))
	wantBool(t, "SumComplex of too many", ok, false)
	wantComplex(t, "SumComplex of too many", got, bitsZero, bitsZero)
}

func TestDotComplex(t *testing.T) {
	i := complex64(complex(0, 1))
	x, y := 1+num(0x39800000), 1+num(0x3a000000)
	for _, c := range []struct {
		a, b           []complex64
		re, im         uint32
		conjRe, conjIm uint32
	}{
		{nil, nil, bitsZero, bitsZero, bitsZero, bitsZero},
		{[]complex64{i}, []complex64{i}, 0xbf800000, bitsZero, bitsOne, bitsZero},
		{[]complex64{complex(1, 2)}, []complex64{complex(3, -1)}, 0x40a00000, 0x40a00000, bitsOne, 0xc0e00000},
		{[]complex64{i, complex(2, 0)}, []complex64{1, i}, bitsZero, 0x40400000, bitsZero, bitsOne},
		// Each product is narrowed before it is added.
		{[]complex64{complex(x, 0), complex(-y, 0)}, []complex64{complex(x, 0), 1}, bitsZero, bitsZero, bitsZero, bitsZero},
		{[]complex64{16777216, 1, 1}, []complex64{1, 1, 1}, 0x4b800000, bitsZero, 0x4b800000, bitsZero},
		{[]complex64{complex(num(bitsInf), 0)}, []complex64{1}, bitsInf, bitsNaN, bitsInf, bitsNaN},
		{repeat(impl.MaxNumbers, i), repeat(impl.MaxNumbers, i), 0xc3800000, bitsZero, 0x43800000, bitsZero},
	} {
		got, ok := impl.DotComplex(c.a, c.b)
		wantBool(t, "DotComplex", ok, true)
		wantComplex(t, "DotComplex", got, c.re, c.im)
		got, ok = impl.DotConjugate(c.a, c.b)
		wantBool(t, "DotConjugate", ok, true)
		wantComplex(t, "DotConjugate", got, c.conjRe, c.conjIm)
	}
	many := repeat(impl.MaxNumbers+1, i)
	for _, c := range [][2][]complex64{{{1}, nil}, {nil, {1}}, {{1, i}, {i}}, {many, many}, {many, many[1:]}, {many[1:], many}} {
		got, ok := impl.DotComplex(c[0], c[1])
		wantBool(t, "DotComplex of invalid lists", ok, false)
		wantComplex(t, "DotComplex of invalid lists", got, bitsZero, bitsZero)
		got, ok = impl.DotConjugate(c[0], c[1])
		wantBool(t, "DotConjugate of invalid lists", ok, false)
		wantComplex(t, "DotConjugate of invalid lists", got, bitsZero, bitsZero)
	}
}

func TestPowersOf(t *testing.T) {
	most, inf := num(bitsMost), num(bitsInf)
	for _, c := range []struct {
		list []complex64
		want uint32
	}{
		{nil, bitsZero},
		{[]complex64{complex(3, 4), 1}, 0x41d00000},
		{[]complex64{4096, 1, complex(0, 1)}, 0x4b800001}, // in 64-bit numbers, no 1 is lost
		{[]complex64{complex(num(0x1a000000), num(0x1a000000))}, 1},
		{[]complex64{complex(num(0x1a000000), 0), complex(0, num(0x1a000000))}, 1},
		{[]complex64{complex(most, most)}, bitsInf},
		{[]complex64{complex(-inf, 0)}, bitsInf}, {[]complex64{complex(inf, num(bitsNaN)), 1}, bitsNaN},
		{repeat(impl.MaxNumbers, complex64(complex(1, 1))), 0x44000000},
	} {
		got, ok := impl.PowersOf(c.list)
		wantBool(t, "PowersOf", ok, true)
		wantNumber(t, "PowersOf", got, c.want)
	}
	got, ok := impl.PowersOf(repeat(impl.MaxNumbers+1, complex64(1)))
	wantBool(t, "PowersOf too many", ok, false)
	wantNumber(t, "PowersOf too many", got, bitsZero)
}
