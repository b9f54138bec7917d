package tests

import (
	"fmt"
	"math"
	"strings"
	"testing"

	"loop.example/g01346/impl"
)

// num returns the number with the given bits, without asking the program.
func num(bits uint32) float32 { return math.Float32frombits(bits) }

// hex tells a number by its bits, without asking the program; all
// not-a-numbers are one value.
func hex(x float32) string {
	if x != x {
		return "7fc00000"
	}
	return fmt.Sprintf("%08x", math.Float32bits(x))
}

func hexComplex(x complex64) string { return hex(real(x)) + hex(imag(x)) }

func wantNumber(t *testing.T, what string, got float32, bits uint32) {
	t.Helper()
	if want := hex(num(bits)); hex(got) != want {
		t.Errorf("%s: got %s, want %s", what, hex(got), want)
	}
}

func wantComplex(t *testing.T, what string, got complex64, re, im uint32) {
	t.Helper()
	if want := hex(num(re)) + hex(num(im)); hexComplex(got) != want {
		t.Errorf("%s: got %s, want %s", what, hexComplex(got), want)
	}
}

func wantText(t *testing.T, what, got, want string) {
	t.Helper()
	if got != want {
		t.Errorf("%s: got %q, want %q", what, got, want)
	}
}

func wantBool(t *testing.T, what string, got, want bool) {
	t.Helper()
	if got != want {
		t.Errorf("%s: got %v, want %v", what, got, want)
	}
}

// Bits of the numbers that the tests name.
const (
	bitsZero      = 0x00000000
	bitsMinusZero = 0x80000000
	bitsLeast     = 0x00000001
	bitsMostSub   = 0x007fffff
	bitsNormal    = 0x00800000
	bitsOne       = 0x3f800000
	bitsMost      = 0x7f7fffff
	bitsInf       = 0x7f800000
	bitsMinusInf  = 0xff800000
	bitsNaN       = 0x7fc00000
)

// edgeBits are bits of numbers at which something changes.
func edgeBits() []uint32 {
	return []uint32{
		bitsZero, bitsMinusZero, bitsLeast, 0x80000001, bitsMostSub, 0x807fffff, bitsNormal, 0x80800000,
		bitsOne, 0xbf800000, 0x3f7fffff, 0x3f800001, 0x3f000000, 0xbf000000, 0x3e800000, 0xbe800000,
		0x3f400000, 0x3fc00000, 0x40490fdb, 0x43480000, 0x43480001, 0xc3480000, 0xc3480001,
		0x597fffff, 0x59800000, 0xd9800000, bitsMost, 0xff7fffff, bitsInf, bitsMinusInf,
		bitsNaN, 0xffc00000, 0x7f800001, 0xff800001, 0x7fffffff, 0xffffffff,
	}
}

func edgeNumbers() []float32 {
	var list []float32
	for _, bits := range edgeBits() {
		list = append(list, num(bits))
	}
	return list
}

func edgeTexts() []string {
	one := "3f800000"
	return []string{
		"", "none", "None", "none,", ",", ",,", " ", "\x00", "\xff", "é", one, one + one, one + "," + one,
		"7fc00000", "7fc00001", "3F800000", "0", "-0", "00", "+1", "-1", "1,2", "1,", ",1", "1.0", "0x10", "1_0",
		"1000000000000000", "1000000000000001", "-1000000000000000", "-1000000000000001",
		"9223372036854775807", "9223372036854775808", "-9223372036854775808", "ring", "abcdefgh", "abcdefghi",
		strings.Repeat("9", 5000), strings.Repeat(",", 5000), strings.Repeat("\xf0", 16), "\u0661", "\uff11",
	}
}

func edgeIntegers() []int64 {
	return []int64{
		0, 1, -1, 9, 10, -10, impl.CheckSize - 1, impl.CheckSize, 1<<31 - 1, 1 << 31, 1<<32 - 1, 1 << 32,
		impl.MaxValue, impl.MaxValue + 1, -impl.MaxValue, -impl.MaxValue - 1, math.MaxInt64, math.MinInt64,
	}
}

// manyBits returns edges and n bits that follow a short rule, half of them
// those of numbers that are neither great nor small.
func manyBits(n int) []uint32 {
	list := edgeBits()
	state := uint32(12345)
	for i := range n {
		state = state*1103515245 + 12345
		high := state >> 16
		state = state*1103515245 + 12345
		bits := high<<16 | state>>16
		if i%2 == 1 {
			bits = bits&0x807fffff | (110+bits>>23&31)<<23
		}
		list = append(list, bits)
	}
	return list
}

func repeat[T any](n int, item T) []T {
	list := make([]T, n)
	for i := range list {
		list[i] = item
	}
	return list
}
