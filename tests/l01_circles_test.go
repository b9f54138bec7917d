package tests

import (
	"fmt"
	"math"
	"strconv"
	"testing"

	"loop.example/g01346/impl"
)

// The bits that this file wants were told by another program, which follows
// the document step by step in 64-bit numbers.

func TestSineTurns(t *testing.T) {
	for _, c := range [][2]uint32{
		{0x00000000, 0x00000000}, {0x80000000, 0x80000000}, {0x00000001, 0x00000006},
		{0x80000001, 0x80000000}, // its part of a turn is rounded to 1
		{0x9e3ce508, 0x80000000}, {0x1e3ce508, 0x1f945b86},
		{0x3e800000, 0x3f800000}, {0xbe800000, 0xbf800000}, {0x3f400000, 0xbf800000},
		{0x3f000000, 0x80000000}, {0xbf000000, 0x80000000}, // the sign of a zero is turned, too
		{0x3f800000, 0x00000000}, {0xbf800000, 0x00000000},
		{0x3daaaaab, 0x3f000000}, {0xbdaaaaab, 0xbf000000},
		{0x3e99999a, 0x3f737870}, {0x3f19999a, 0xbf16791a}, {0x42f6e979, 0x3e8bbf57}, {0x3eaaaaab, 0x3f5db3d7},
		{0x3f7fffff, 0xb4c90fdb}, {0xbf7fffff, 0x34c90fdb},
		{0x4affffff, 0x80000000}, {0xcaffffff, 0x80000000}, // the greatest numbers with a half
		{0x597fffff, 0x00000000}, {0x59800000, 0x00000000}, {0xd9800000, 0x00000000}, {0xff7fffff, 0x00000000},
		{bitsInf, bitsNaN}, {bitsMinusInf, bitsNaN}, {bitsNaN, bitsNaN}, {0xffc00001, bitsNaN},
	} {
		wantNumber(t, "SineTurns "+hex(num(c[0])), impl.SineTurns(num(c[0])), c[1])
	}
}

func TestPhasor(t *testing.T) {
	for _, c := range []struct {
		turns  float64
		re, im uint32
	}{
		{0, bitsOne, bitsZero}, {math.Copysign(0, -1), bitsOne, bitsMinusZero},
		{0.25, bitsZero, bitsOne}, {0.5, 0xbf800000, bitsZero}, {0.75, bitsZero, 0xbf800000}, {1, bitsOne, bitsZero},
		{-0.25, bitsZero, 0xbf800000}, {-0.5, 0xbf800000, bitsZero}, {-1, bitsOne, bitsZero},
		{0.125, 0x3f3504f3, 0x3f3504f3}, {0.3333333333333333, 0xbf000000, 0x3f5db3d7},
		{-0.3333333333333333, 0xbf000000, 0xbf5db3d7}, {0.7, 0xbe9e377a, 0xbf737871}, {123456789.1, 0x3f4f1bbd, 0x3f167918},
		{1e-300, bitsOne, bitsZero}, {-1e-300, bitsOne, bitsZero}, {-1e-20, bitsOne, bitsZero}, // a part of 1, rounded: q is 4
		{0x1p52 - 0.5, 0xbf800000, bitsZero}, {-(0x1p52 - 0.5), 0xbf800000, bitsZero},
		{0x1p52, bitsOne, bitsZero}, {-0x1p52, bitsOne, bitsZero}, {1e300, bitsOne, bitsZero}, {-math.MaxFloat64, bitsOne, bitsZero},
		{math.Inf(1), bitsNaN, bitsNaN}, {math.Inf(-1), bitsNaN, bitsNaN}, {math.NaN(), bitsNaN, bitsNaN},
	} {
		wantComplex(t, fmt.Sprintf("PhasorOf %v", c.turns), impl.PhasorOf(c.turns), c.re, c.im)
	}
}

func TestAngle(t *testing.T) {
	for _, c := range []struct{ y, x, want uint32 }{
		{bitsZero, bitsOne, bitsZero}, {bitsMinusZero, bitsOne, bitsZero},
		{bitsZero, 0xbf800000, 0x3f000000}, {bitsMinusZero, 0xbf800000, 0x3f000000},
		{bitsOne, bitsZero, 0x3e800000}, {0xbf800000, bitsZero, 0xbe800000}, {bitsOne, bitsMinusZero, 0x3e800000},
		{bitsOne, bitsOne, 0x3e000000}, {0xbf800000, bitsOne, 0xbe000000},
		{bitsOne, 0xbf800000, 0x3ec00000}, {0xbf800000, 0xbf800000, 0xbec00000},
		{0x3f800000, 0x40000000, 0x3d972029}, {0x40000000, 0x3f800000, 0x3e346fec},
		{0xc0400000, 0x40e00000, 0xbd83f965}, {0x3dcccccd, 0xbe4ccccd, 0x3eda37f6},
		{0x00000001, 0x3f800000, 0x00000000}, {0x80000001, 0x7f7fc99e, 0x80000000}, {0x00000001, 0x00000001, 0x3e000000},
		{0x7f7fc99e, 0x7f7fc99e, 0x3e000000}, {0x7f7fc99e, 0x80000001, 0x3e800000},
		{bitsZero, bitsZero, bitsZero}, {bitsMinusZero, bitsZero, bitsZero},
		{bitsZero, bitsMinusZero, bitsZero}, {bitsMinusZero, bitsMinusZero, bitsZero},
		{bitsInf, bitsOne, bitsNaN}, {bitsOne, bitsInf, bitsNaN}, {bitsMinusInf, bitsInf, bitsNaN},
		{bitsNaN, bitsOne, bitsNaN}, {bitsOne, bitsNaN, bitsNaN}, {bitsNaN, bitsZero, bitsNaN}, {bitsZero, bitsInf, bitsNaN},
	} {
		x, y := num(c.x), num(c.y)
		wantNumber(t, "AngleTurns "+hex(y)+" "+hex(x), impl.AngleTurns(y, x), c.want)
		wantNumber(t, "AngleOf "+hex(x)+" "+hex(y), impl.AngleOf(complex(x, y)), c.want)
	}
}

func TestTenths(t *testing.T) {
	for _, c := range []struct {
		bits uint32
		want int64
	}{
		{bitsOne, 0}, {0x3f800001, 0}, {0x3f7fffff, 0}, {0x40000000, 30}, {0x3f000000, -30},
		{0x41200000, 100}, {0x42c80000, 200}, {0x3dcccccd, -100}, {0x447a0000, 300},
		{0x3f8178d5, 0}, {0x3f817c1c, 1}, {0x3f7d0e56, -1}, {0x3f7d14e4, 0}, // on both sides of a half
		{0x3fbffcb9, 18}, {0x3fc00000, 18}, {0x3f400000, -12},
		{0x58b64495, 1521}, {bitsLeast, -4485}, {bitsMostSub, -3793}, {bitsNormal, -3793}, {bitsMost, 3853},
	} {
		if got, ok := impl.TenthsOf(num(c.bits)); !ok || got != c.want {
			t.Errorf("TenthsOf %08x: got %d, %v, want %d", c.bits, got, ok, c.want)
		}
	}
	for _, bits := range []uint32{bitsZero, bitsMinusZero, 0x80000001, 0xbf800000, bitsInf, bitsMinusInf, bitsNaN, 0xffc00000} {
		if got, ok := impl.TenthsOf(num(bits)); ok || got != 0 {
			t.Errorf("TenthsOf %08x: got %d, %v", bits, got, ok)
		}
	}
}

func TestLog(t *testing.T) {
	for _, c := range [][2]uint32{
		{bitsZero, bitsMinusInf}, {bitsMinusZero, bitsMinusInf},
		{0x00000001, 0xc2ce8ed0}, {0x007fffff, 0xc2aeac50}, {0x00800000, 0xc2aeac50},
		{0x3f800000, 0x00000000}, {0x3f800001, 0x33ffffff}, {0x3f7fffff, 0xb3800000},
		{0x3f400000, 0xbe934b11}, {0x3f3fffff, 0xbe934b13}, {0x3fbfffff, 0x3ecf991d}, {0x3fc00000, 0x3ecf991f},
		{0x40000000, 0x3f317218}, {0x41200000, 0x40135d8e}, {0x402df854, 0x3f7fffff}, {0x7f7fffff, 0x42b17218},
		{bitsInf, bitsInf}, {0x80000001, bitsNaN}, {0xbf800000, bitsNaN}, {bitsMinusInf, bitsNaN}, {bitsNaN, bitsNaN}, {0xff800001, bitsNaN},
	} {
		wantNumber(t, "LogNumber "+hex(num(c[0])), impl.LogNumber(num(c[0])), c[1])
	}
}

func TestExp(t *testing.T) {
	for _, c := range [][2]uint32{
		{bitsZero, bitsOne}, {bitsMinusZero, bitsOne}, {bitsLeast, bitsOne}, {0x80000001, bitsOne},
		{0x3f800000, 0x402df854}, {0xbf800000, 0x3ebc5ab2}, {0x3f000000, 0x3fd3094c}, {0x41200000, 0x46ac14ee},
		{0x42b17217, 0x7f7fff84}, {0x42b17218, 0x7f800000}, {0x42c80000, 0x7f800000}, // about the greatest finite one
		{0x43480000, bitsInf}, {0x43480001, bitsInf}, {bitsMost, bitsInf}, {bitsInf, bitsInf},
		{0xc2af0000, 0x006cb2bc}, {0xc2c80000, 0x0000001b}, {0xc2cfcccd, 0x00000001}, {0xc2d10000, 0x00000000},
		{0xc3480000, bitsZero}, {0xc3480001, bitsZero}, {0xff7fffff, bitsZero}, {bitsMinusInf, bitsZero},
		{bitsNaN, bitsNaN}, {0xffc00001, bitsNaN},
	} {
		wantNumber(t, "ExpNumber "+hex(num(c[0])), impl.ExpNumber(num(c[0])), c[1])
	}
}

// TestHalfWayBetween has numbers whose results, as 64-bit numbers, are half
// way, or all but half way, between two 32-bit ones: if any operation is
// rounded in another way, or not at all, or in another order, one of them shows it.
func TestHalfWayBetween(t *testing.T) {
	for _, c := range [][2]uint32{
		{0x0dc8bba4, 0xc289bac4}, {0x111c87f8, 0xc28085df}, {0x1a8446cb, 0xc24d0a45}, {0x1f116ab8, 0xc233b53e},
		{0x2c4c24b7, 0xc1d48710}, {0x3bf86ef0, 0xc09c399e}, {0x38dcbe38, 0xc1128ba4}, {0x41178feb, 0x400fe5e7},
		{0x3c413d3a, 0xc08e158f}, {0x4665a9a6, 0x41198725}, {0x4c5d65a5, 0x418f034a}, {0x4d604ebe, 0x419a352c},
		{0x5ee8984e, 0x422e4a21}, {0x66a8c860, 0x42595e46}, {0x65d890d3, 0x4254d1f8}, {0x6f31a8ec, 0x42845a88},
	} {
		wantNumber(t, "LogNumber "+hex(num(c[0])), impl.LogNumber(num(c[0])), c[1])
	}
	for _, c := range [][2]uint32{
		{0x3f9c7c14, 0x405954a2}, {0xc16912cd, 0x34fd331a},
		{0xc2abb454, 0x018d2f96}, {0xc2ae7135, 0x008fa9a1}, {0x42ac5633, 0x7d9f323e}, {0xc2ac0052, 0x01736c63}, // far from 0, where the last terms count most
	} {
		wantNumber(t, "ExpNumber "+hex(num(c[0])), impl.ExpNumber(num(c[0])), c[1])
	}
	for _, c := range [][2]uint32{
		{0x3d7d7f58, 0x3ec21dd8}, {0xbd7d7f58, 0xbec21dd8}, {0x3ee05015, 0x3ec21dd8}, {0xbee05015, 0xbec21dd8},
	} {
		wantNumber(t, "SineTurns "+hex(num(c[0])), impl.SineTurns(num(c[0])), c[1])
	}
	for _, c := range [][3]uint32{
		{0xbe18532c, 0x43557da5, 0xb8e89048}, {0xc0566838, 0x3e754d9a, 0xbe745db8}, {0x42661c39, 0x3ddd75a5, 0x3e7fb194},
		{0x3c0d24ff, 0xc32a13d6, 0x3efffef2}, {0xbe804e29, 0x3ec41167, 0xbdbcdf9c}, {0x40e6e5cc, 0xbde91454, 0x3e814900},
		{0xc1918401, 0xc1171d79, 0xbea706a8}, {0x401b1115, 0x43b8c192, 0x3a88c892},
	} {
		wantNumber(t, "AngleTurns "+hex(num(c[0]))+" "+hex(num(c[1])), impl.AngleTurns(num(c[0]), num(c[1])), c[2])
	}
}

// TestPhasorSteps has pairs of neighbours between which a part takes a step.
func TestPhasorSteps(t *testing.T) {
	for _, c := range []struct {
		turns  float64
		re, im uint32
	}{
		{0.05000000386714558, 0x3f737870, 0x3e9e377a}, {0.050000003867145586, 0x3f737870, 0x3e9e377b},
		{0.20000002756450233, 0x3e9e3774, 0x3f737871}, {0.20000002756450236, 0x3e9e3774, 0x3f737872},
		{0.2200000060993533, 0x3e3fe0e1, 0x3f7b772d}, {0.22000000609935333, 0x3e3fe0e1, 0x3f7b772e},
		{0.23500003815080778, 0x3dc0bbbc, 0x3f7edd26}, {0.2350000381508078, 0x3dc0bbbc, 0x3f7edd27},
		{0.2400000760515834, 0x3d809811, 0x3f7f7eae}, {0.24000007605158344, 0x3d809811, 0x3f7f7eaf},
		{0.24000000044099534, 0x3d809851, 0x3f7f7eae}, {0.24000000044099537, 0x3d809850, 0x3f7f7eae},
		{0.030000044526654182, 0x3f7b772d, 0x3e3fe0f6}, {0.030000044526654186, 0x3f7b772c, 0x3e3fe0f6},
		{0.010000075028140223, 0x3f7f7eae, 0x3d809890}, {0.010000075028140225, 0x3f7f7ead, 0x3d809890},
		{0.30000000386714554, 0xbe9e377a, 0x3f737870}, {0.3000000038671456, 0xbe9e377b, 0x3f737870},
		{0.4500000011201363, 0xbf737871, 0x3e9e377a}, {0.45000000112013633, 0xbf737871, 0x3e9e3779},
		{0.6000000058472141, 0xbf4f1bbd, 0xbf167919}, {0.6000000058472142, 0xbf4f1bbc, 0xbf167919},
		{0.9000000074966025, 0x3f4f1bbd, 0xbf167918}, {0.9000000074966026, 0x3f4f1bbd, 0xbf167917},
		{3.2100000225737686, 0x3e7ea887, 0x3f77f511}, {3.210000022573769, 0x3e7ea887, 0x3f77f512},
	} {
		wantComplex(t, fmt.Sprintf("PhasorOf %v", c.turns), impl.PhasorOf(c.turns), c.re, c.im)
	}
}

// TestManyNumbers folds the bits of many results to one number each, and wants
// what the other program told.
func TestManyNumbers(t *testing.T) {
	all := manyBits(40000)
	fold := func(what string, want int64, tell func(a, b uint32) string) {
		got := int64(0)
		for i, a := range all {
			for _, c := range []byte(tell(a, all[(i*7+3)%len(all)])) {
				got = (got*31 + int64(c)) % 1000000007
			}
		}
		if got != want {
			t.Errorf("%s: many results differ: got %d, want %d", what, got, want)
		}
	}
	fold("SineTurns", 936191217, func(a, b uint32) string { return hex(impl.SineTurns(num(a))) })
	fold("AngleTurns", 178313014, func(a, b uint32) string { return hex(impl.AngleTurns(num(a), num(b))) })
	fold("LogNumber", 990974630, func(a, b uint32) string { return hex(impl.LogNumber(num(a))) })
	fold("ExpNumber", 223997569, func(a, b uint32) string { return hex(impl.ExpNumber(num(a))) })
	fold("RootNumber", 468179044, func(a, b uint32) string { return hex(impl.RootNumber(num(a))) })
	fold("TenthsOf", 18683319, func(a, b uint32) string {
		n, ok := impl.TenthsOf(num(a))
		return strconv.FormatInt(n, 10) + strconv.FormatBool(ok)
	})
	fold("PhasorOf", 528199381, func(a, b uint32) string {
		// A number of 64 bits from both: sign, an exponent of the 32-bit range, and places.
		wide := uint64(a>>31)<<63 | uint64(a>>23&255+896)<<52 | uint64(a&0x7fffff)<<29 | uint64(b&0x1fffffff)
		return hexComplex(impl.PhasorOf(math.Float64frombits(wide)))
	})
	fold("MulComplex", 353239573, func(a, b uint32) string {
		return hexComplex(impl.MulComplex(complex(num(a), num(b)), complex(num(b), num(a^0x80000))))
	})
	fold("QuotientOf", 556898329, func(a, b uint32) string {
		return hexComplex(impl.QuotientOf(complex(num(a), num(b)), complex(num(b^0x12345), num(a^0x80000))))
	})
	fold("PowerOf", 105142059, func(a, b uint32) string { return hex(impl.PowerOf(complex(num(a), num(b)))) })
	fold("LongOf", 841986718, func(a, b uint32) string { return hex(impl.LongOf(complex(num(a), num(b)))) })
}
