package tests

import (
	"math"
	"testing"

	"loop.example/g01346/impl"
)

func TestLimitsOfChapter1(t *testing.T) {
	if impl.MaxNumbers != 256 || impl.MaxValue != 1000000000000000 || impl.MaxItems != 64 || impl.CheckSize != 65003 {
		t.Error("a limit differs from the document's")
	}
}

// TestBits is about promise 2: numbers are told by their bits.
func TestBits(t *testing.T) {
	for _, bits := range manyBits(2000) {
		x, ok := impl.FromBits(int64(bits))
		if !ok || hex(x) != hex(num(bits)) {
			t.Errorf("FromBits %08x: got %s, %v", bits, hex(x), ok)
		}
		want := int64(bits)
		if num(bits) != num(bits) {
			want = 2143289344
		}
		if got := impl.BitsOf(num(bits)); got != want {
			t.Errorf("BitsOf %08x: got %d, want %d", bits, got, want)
		}
	}
	for _, n := range []int64{-1, 4294967296, math.MinInt64, math.MaxInt64, -2147483648, 4294967296 + bitsOne} {
		if x, ok := impl.FromBits(n); ok || hex(x) != "00000000" {
			t.Errorf("FromBits %d: got %s, %v", n, hex(x), ok)
		}
	}
}

func TestSameNumber(t *testing.T) {
	for i, a := range edgeNumbers() {
		for k, b := range edgeNumbers() {
			want := i == k || a != a && b != b
			wantBool(t, "SameNumber "+hex(a)+" "+hex(b), impl.SameNumber(a, b), want)
			wantBool(t, "SameComplex, real "+hex(a)+" "+hex(b), impl.SameComplex(complex(a, 2), complex(b, 2)), want)
			wantBool(t, "SameComplex, imag "+hex(a)+" "+hex(b), impl.SameComplex(complex(2, a), complex(2, b)), want)
		}
	}
}

func TestIsFinite(t *testing.T) {
	for _, x := range edgeNumbers() {
		want := x-x == 0
		wantBool(t, "IsFinite "+hex(x), impl.IsFinite(x), want)
		wantBool(t, "IsFiniteComplex, real "+hex(x), impl.IsFiniteComplex(complex(x, 1)), want)
		wantBool(t, "IsFiniteComplex, imag "+hex(x), impl.IsFiniteComplex(complex(1, x)), want)
	}
}

func TestSubnormal(t *testing.T) {
	for _, c := range []struct {
		bits uint32
		sub  bool
		want uint32
	}{
		{bitsZero, false, bitsZero}, {bitsMinusZero, false, bitsMinusZero},
		{bitsLeast, true, bitsZero}, {0x80000001, true, bitsMinusZero},
		{bitsMostSub, true, bitsZero}, {0x807fffff, true, bitsMinusZero},
		{bitsNormal, false, bitsNormal}, {0x80800000, false, 0x80800000},
		{bitsOne, false, bitsOne}, {bitsMost, false, bitsMost},
		{bitsInf, false, bitsInf}, {bitsMinusInf, false, bitsMinusInf},
		{bitsNaN, false, bitsNaN}, {0xff800001, false, bitsNaN},
	} {
		x := num(c.bits)
		wantBool(t, "IsSubnormal "+hex(x), impl.IsSubnormal(x), c.sub)
		wantNumber(t, "FlushNumber "+hex(x), impl.FlushNumber(x), c.want)
	}
}

// narrowings are 64-bit numbers and the bits of the nearest 32-bit ones.
func narrowings() map[float64]uint32 {
	return map[float64]uint32{
		0.5: 0x3f000000, 1: bitsOne, -2: 0xc0000000, 0.1: 0x3dcccccd,
		1 + 0x1p-24: bitsOne, 1 + 0x1p-24 + 0x1p-52: 0x3f800001, 1 + 0x3p-24: 0x3f800002,
		0x1p-149: bitsLeast, 0x1p-150: bitsZero, -0x1p-150: bitsMinusZero, 0x1.0000000000001p-150: bitsLeast, 0x3p-150: 2,
		0x1.fffffep-127: bitsNormal, 0x1.fffffcp-127: bitsMostSub,
		0x1.fffffep127: bitsMost, 0x1.fffffefffffffp127: bitsMost, 0x1.ffffffp127: bitsInf, -0x1.ffffffp127: bitsMinusInf,
		1e300: bitsInf, math.Inf(1): bitsInf, math.Inf(-1): bitsMinusInf, math.Copysign(0, -1): bitsMinusZero, 5e-324: bitsZero,
	}
}

func TestNarrow(t *testing.T) {
	for x, bits := range narrowings() {
		wantNumber(t, "NarrowNumber", impl.NarrowNumber(x), bits)
		wantComplex(t, "NarrowComplex", impl.NarrowComplex(complex(x, -3)), bits, 0xc0400000)
		wantComplex(t, "NarrowComplex", impl.NarrowComplex(complex(-3, x)), 0xc0400000, bits)
	}
	wantNumber(t, "NarrowNumber -0", impl.NarrowNumber(math.Copysign(0, -1)), bitsMinusZero)
	wantNumber(t, "NarrowNumber NaN", impl.NarrowNumber(math.NaN()), bitsNaN)
	wantComplex(t, "NarrowComplex NaN", impl.NarrowComplex(complex(math.NaN(), 1)), bitsNaN, bitsOne)
}

// TestSmallProducts is about promise 2: products of small integers are exact.
func TestSmallProducts(t *testing.T) {
	for a := float32(-9); a <= 9; a++ {
		for b := float32(-9); b <= 9; b++ {
			for c := float32(-9); c <= 9; c++ {
				x, y := complex(a, b), complex(c, a+1)
				want := complex(a*c-b*(a+1), a*(a+1)+b*c)
				if got := impl.MulComplex(x, y); got != want {
					t.Fatalf("MulComplex %v %v: got %v, want %v", x, y, got, want)
				}
				if c != 0 && impl.QuotientOf(x*complex(c, 0), complex(c, 0)) != x {
					t.Fatalf("QuotientOf by %v does not bring %v back", c, x)
				}
				if got, ok := impl.DotNumbers([]float32{a, b}, []float32{c, 4}); !ok || got != a*c+b*4 {
					t.Fatalf("DotNumbers: got %v, %v", got, ok)
				}
			}
			if got := impl.PowerOf(complex(a, b)); got != a*a+b*b {
				t.Fatalf("PowerOf %v %v: got %v", a, b, got)
			}
			if got := impl.ScaleComplex(complex(a, b), 5); got != complex(5*a, 5*b) {
				t.Fatalf("ScaleComplex %v %v: got %v", a, b, got)
			}
		}
	}
}

func TestComplexProducts(t *testing.T) {
	inf, nan, zero := num(bitsInf), num(bitsNaN), num(bitsMinusZero)
	wantComplex(t, "1+2i by 3-i", impl.MulComplex(complex(1, 2), complex(3, -1)), 0x40a00000, 0x40a00000)
	// Infinities follow from the parts alone: 0 times infinity is none.
	wantComplex(t, "inf by 1", impl.MulComplex(complex(inf, 0), complex(1, 0)), bitsInf, bitsNaN)
	wantComplex(t, "inf by 1+i", impl.MulComplex(complex(inf, inf), complex(1, 1)), bitsNaN, bitsInf)
	wantComplex(t, "nan by 0", impl.MulComplex(complex(nan, 0), 0), bitsNaN, bitsNaN)
	wantComplex(t, "-0-0i by 1", impl.MulComplex(complex(zero, zero), complex(1, 0)), bitsZero, bitsMinusZero)
	wantComplex(t, "1 by -0-0i", impl.MulComplex(complex(1, 0), complex(zero, zero)), bitsZero, bitsMinusZero)
	// Each part is rounded once: (1 + 2^-12)^2 - (1 + 2^-11) is 2^-24.
	x := complex(1+num(0x39800000), 1)
	wantComplex(t, "rounded once", impl.MulComplex(x, complex(real(x), 1+num(0x3a000000))), 0x33800000, 0x40001000)
	most := num(bitsMost)
	wantComplex(t, "too great in between", impl.MulComplex(complex(most, most), complex(2, 2)), bitsZero, bitsInf)
	wantComplex(t, "least by least", impl.MulComplex(complex(num(1), 0), complex(num(0x80000001), 0)), bitsMinusZero, bitsZero)
}

func TestScaleAndConjugate(t *testing.T) {
	inf := num(bitsInf)
	wantComplex(t, "scale", impl.ScaleComplex(complex(1, 2), 0.5), 0x3f000000, bitsOne)
	wantComplex(t, "scale by 0", impl.ScaleComplex(complex(-1, 2), 0), bitsMinusZero, bitsZero)
	wantComplex(t, "scale by -0", impl.ScaleComplex(complex(-1, 2), num(bitsMinusZero)), bitsZero, bitsMinusZero)
	wantComplex(t, "scale inf", impl.ScaleComplex(complex(0, 2), inf), bitsNaN, bitsInf)
	wantComplex(t, "scale least", impl.ScaleComplex(complex(num(1), num(3)), 0.5), bitsZero, 2)
	for _, x := range edgeBits() {
		want := x ^ 0x80000000
		wantComplex(t, "conjugate", impl.ConjugateOf(complex(num(x), num(x))), x, want)
	}
}

func TestPowerAndLong(t *testing.T) {
	for _, c := range []struct{ re, im, power, long uint32 }{
		{0x40400000, 0x40800000, 0x41c80000, 0x40a00000},
		{bitsZero, bitsMinusZero, bitsZero, bitsZero},
		{bitsMost, bitsZero, bitsInf, bitsMost},
		{bitsMost, bitsMost, bitsInf, bitsInf},
		{bitsLeast, bitsZero, bitsZero, bitsLeast},
		{0x1a800000, bitsZero, 0x00000002, 0x1a800000}, // 2^-74
		{0x1a000000, bitsZero, bitsZero, 0x1a000000},   // 2^-75: a half of the least number is no number
		{bitsMinusInf, bitsOne, bitsInf, bitsInf},
		{bitsNaN, bitsInf, bitsNaN, bitsNaN},
		{bitsOne, bitsNaN, bitsNaN, bitsNaN},
		{0x3f800800, 0x35800000, 0x3f801001, 0x3f800800}, // (1 + 2^-12)^2, barely more than half way
	} {
		x := complex(num(c.re), num(c.im))
		wantNumber(t, "PowerOf "+hexComplex(x), impl.PowerOf(x), c.power)
		wantNumber(t, "LongOf "+hexComplex(x), impl.LongOf(x), c.long)
	}
}

func TestQuotient(t *testing.T) {
	inf, least, most := num(bitsInf), num(1), num(bitsMost)
	for _, c := range []struct {
		x, y   complex64
		re, im uint32
	}{
		{complex(0, 4), 2, bitsZero, 0x40000000},
		{complex(5, 5), complex(3, -1), bitsOne, 0x40000000},
		{complex(1, 0), 0, bitsNaN, bitsNaN},
		{complex(1, 1), 0, bitsNaN, bitsNaN},
		{complex(inf, 0), complex(1, 0), bitsInf, bitsNaN},
		{complex(1, 0), complex(inf, 0), bitsNaN, bitsNaN},
		{complex(most, most), complex(most, most), bitsOne, bitsZero},
		{complex(least, 0), complex(least, 0), bitsOne, bitsZero},
		{complex(1, 0), complex(least, 0), bitsInf, bitsZero},
		{complex(-1, 0), complex(2, 0), 0xbf000000, bitsZero},
		{complex(0, -1), complex(0, 3), 0xbeaaaaab, bitsMinusZero},
		{complex(1, 0), complex(3, 0), 0x3eaaaaab, bitsZero},
	} {
		got := impl.QuotientOf(c.x, c.y)
		wantComplex(t, "QuotientOf "+hexComplex(c.x)+" "+hexComplex(c.y), got, c.re, c.im)
	}
}

func TestRoot(t *testing.T) {
	for _, c := range [][2]uint32{
		{0x41100000, 0x40400000}, {0x40000000, 0x3fb504f3}, {bitsOne, bitsOne}, {bitsZero, bitsZero}, {bitsMinusZero, bitsMinusZero},
		{bitsLeast, 0x1a3504f3}, {bitsMost, 0x5f7fffff}, {bitsInf, bitsInf}, {bitsMinusInf, bitsNaN},
		{0x80000001, bitsNaN}, {0xbf800000, bitsNaN}, {bitsNaN, bitsNaN}, {0xffc00001, bitsNaN},
	} {
		wantNumber(t, "RootNumber "+hex(num(c[0])), impl.RootNumber(num(c[0])), c[1])
	}
}
