package tests

import (
	"math"
	"slices"
	"strings"
	"testing"

	"loop.example/g01346/impl"
)

func TestNumbersText(t *testing.T) {
	for _, c := range []struct {
		list []float32
		want string
	}{
		{nil, "none"}, {[]float32{}, "none"}, {[]float32{1, -2}, "3f800000,c0000000"}, {[]float32{0}, "00000000"},
		{[]float32{num(bitsMinusZero), num(bitsLeast), num(bitsInf)}, "80000000,00000001,7f800000"},
		{[]float32{num(0x7f800001), num(0xffc00001)}, "7fc00000,7fc00000"},
	} {
		got, ok := impl.NumbersText(c.list)
		wantBool(t, "NumbersText", ok, true)
		wantText(t, "NumbersText", got, c.want)
	}
	got, ok := impl.NumbersText(make([]float32, impl.MaxNumbers+1))
	wantBool(t, "NumbersText of too many", ok, false)
	wantText(t, "NumbersText of too many", got, "")
}

func TestComplexText(t *testing.T) {
	for _, c := range []struct {
		list []complex64
		want string
	}{
		{nil, "none"}, {[]complex64{}, "none"}, {[]complex64{1}, "3f80000000000000"},
		{[]complex64{1, complex(0, -2)}, "3f80000000000000,00000000c0000000"},
		{[]complex64{complex(num(0xff800001), num(bitsMinusZero))}, "7fc0000080000000"},
	} {
		got, ok := impl.ComplexText(c.list)
		wantBool(t, "ComplexText", ok, true)
		wantText(t, "ComplexText", got, c.want)
	}
	got, ok := impl.ComplexText(make([]complex64, impl.MaxNumbers+1))
	wantBool(t, "ComplexText of too many", ok, false)
	wantText(t, "ComplexText of too many", got, "")
}

// TestNumbersComeBack is about promise 2: texts are read back to the last bit.
func TestNumbersComeBack(t *testing.T) {
	all := manyBits(3000)
	for n := 0; n <= impl.MaxNumbers; n++ {
		var list []float32
		var pairs []complex64
		for i := range n {
			x, y := num(all[(n*31+i)%len(all)]), num(all[(n*17+i*3)%len(all)])
			list, pairs = append(list, x), append(pairs, complex(x, y))
		}
		text, one := impl.NumbersText(list)
		back, two := impl.ReadNumbers(text)
		if !one || !two || !slices.EqualFunc(list, back, func(a, b float32) bool { return hex(a) == hex(b) }) {
			t.Fatalf("%d numbers do not come back", n)
		}
		text, one = impl.ComplexText(pairs)
		more, two := impl.ReadComplex(text)
		if !one || !two || !slices.EqualFunc(pairs, more, func(a, b complex64) bool { return hexComplex(a) == hexComplex(b) }) {
			t.Fatalf("%d complex numbers do not come back", n)
		}
	}
}

// nearTexts are texts that are nearly those of 8 digits.
func nearTexts() []string {
	list := []string{
		"", " ", ",", "non", "nones", "None", "none,", ",none", "none,none", "none,3f800000", "none ", "\x00none",
		"3f80000", "3f8000000", "3F800000", "3f80000g", "3f80000/", "3f80000:", "3f80000`", "3f80000@", "3f80000G",
		"3f800000,", ",3f800000", "3f800000,,3f800000", "3f800000;3f800000", "3f8000003f800000", "3f800000 ,3f800000",
		" 3f800000", "3f800000 ", "3f800000\n", "+f800000", "-f800000", "0x3f8000", "3f_80000", "3f80000\x00",
		"7fc00001", "7f800001", "7fffffff", "ffc00000", "ff800001", "ffffffff", "7FC00000",
		"3f8000\u00e9", "\u0663f800000", "\u0660\u0660\u0660\u0660", "3f80000\xff", "\xff\xff\xff\xff\xff\xff\xff\xff",
		"3f800\uff11", "nan", "1",
	}
	return list
}

func TestReadNumbersFails(t *testing.T) {
	texts := append(nearTexts(), strings.Repeat("3f800000,", impl.MaxNumbers)+"3f800000", "3f80000000000000", strings.Repeat("0", 100000))
	for _, text := range texts {
		if got, ok := impl.ReadNumbers(text); ok || len(got) != 0 {
			t.Errorf("ReadNumbers %.40q: got %v, %v", text, got, ok)
		}
	}
	got, ok := impl.ReadNumbers(strings.Repeat("3f800000,", impl.MaxNumbers-1) + "3f800000")
	if !ok || !slices.Equal(got, repeat(impl.MaxNumbers, float32(1))) {
		t.Errorf("ReadNumbers of %d numbers: got %v, %v", impl.MaxNumbers, got, ok)
	}
	got, ok = impl.ReadNumbers("none")
	if !ok || len(got) != 0 {
		t.Errorf("ReadNumbers none: got %v, %v", got, ok)
	}
}

func TestReadComplexFails(t *testing.T) {
	one := "3f80000000000000"
	texts := []string{one[:15], one + "0", "3f800000,00000000", one + ",", "," + one, one + "," + one[:8], strings.Repeat(one+",", impl.MaxNumbers) + one}
	for _, text := range nearTexts() {
		texts = append(texts, text)
		if len(text) == 8 {
			texts = append(texts, text+"3f800000", "3f800000"+text, one+","+one[:8]+text)
		}
	}
	for _, text := range texts {
		if text == "3f8000003f800000" {
			continue
		}
		if got, ok := impl.ReadComplex(text); ok || len(got) != 0 {
			t.Errorf("ReadComplex %.40q: got %v, %v", text, got, ok)
		}
	}
	got, ok := impl.ReadComplex(strings.Repeat(one+",", impl.MaxNumbers-1) + one)
	if !ok || !slices.Equal(got, repeat(impl.MaxNumbers, complex64(1))) {
		t.Errorf("ReadComplex of %d numbers: got %v, %v", impl.MaxNumbers, got, ok)
	}
	got, ok = impl.ReadComplex("none")
	if !ok || len(got) != 0 {
		t.Errorf("ReadComplex none: got %v, %v", got, ok)
	}
}

func TestIsName(t *testing.T) {
	for _, s := range []string{"a", "z", "ring", "abcdefgh", "zzzzzzzz"} {
		wantBool(t, s, impl.IsName(s), true)
	}
	for _, s := range []string{"", "abcdefghi", "A", "Ring", "a1", "a b", " a", "a ", "a\n", "`", "{", "a\x00", "\xff", "é", "aé", "a\xe1", "а"} {
		wantBool(t, s, impl.IsName(s), false)
	}
}

func TestDecimal(t *testing.T) {
	for n, want := range map[int64]string{
		0: "0", -4: "-4", 10: "10", impl.MaxValue: "1000000000000000", -impl.MaxValue: "-1000000000000000",
		math.MaxInt64: "9223372036854775807", math.MinInt64: "-9223372036854775808", impl.MaxValue + 1: "1000000000000001",
	} {
		wantText(t, "Decimal", impl.Decimal(n), want)
		got, ok := impl.ReadDecimal(want)
		if inside := -impl.MaxValue <= n && n <= impl.MaxValue; ok != inside || inside && got != n || !inside && got != 0 {
			t.Errorf("ReadDecimal %s: got %d, %v", want, got, ok)
		}
	}
	for _, s := range []string{
		"", "-", "+", "-0", "+0", "00", "01", "-01", "+1", "--1", "1-", "1e3", "1.0", "1.", "0x1", "0b1", "0o7", "1_0", "_1", "1,0", " 1", "1 ", "1\n",
		"1000000000000001", "-1000000000000001", "9223372036854775808", "-9223372036854775809", "18446744073709551617",
		"\u0661", "\uff11", "\u22121", "1\x00", "\xff", "none", "a", strings.Repeat("1", 100000), strings.Repeat("0", 100000),
	} {
		if got, ok := impl.ReadDecimal(s); ok || got != 0 {
			t.Errorf("ReadDecimal %.40q: got %d, %v", s, got, ok)
		}
	}
}

func TestListText(t *testing.T) {
	for _, c := range []struct {
		list []int64
		want string
	}{
		{nil, "none"}, {[]int64{}, "none"}, {[]int64{0}, "0"}, {[]int64{1, -2, 30}, "1,-2,30"},
		{[]int64{impl.MaxValue, -impl.MaxValue}, "1000000000000000,-1000000000000000"},
		{repeat(impl.MaxItems, int64(7)), strings.Repeat("7,", impl.MaxItems-1) + "7"},
	} {
		got, ok := impl.ListText(c.list)
		wantBool(t, "ListText", ok, true)
		wantText(t, "ListText", got, c.want)
		back, ok := impl.ReadList(c.want)
		if !ok || !slices.Equal(back, c.list) {
			t.Errorf("ReadList %q: got %v, %v", c.want, back, ok)
		}
	}
	for _, list := range [][]int64{{impl.MaxValue + 1}, {0, -impl.MaxValue - 1}, {math.MinInt64}, {math.MaxInt64, 1}, make([]int64, impl.MaxItems+1)} {
		got, ok := impl.ListText(list)
		wantBool(t, "ListText of an invalid list", ok, false)
		wantText(t, "ListText of an invalid list", got, "")
	}
	for _, s := range []string{
		"", ",", "1,", ",1", "1,,2", "1, 2", "1;2", "none,", "none,1", "1,none", "None", "-0", "1,-0", "01", "+1", "1,2 ", "1\n",
		"1000000000000001", "1,-1000000000000001", strings.Repeat("7,", impl.MaxItems) + "7", strings.Repeat(",", 100000), "\xff", "1,\u0661",
	} {
		if got, ok := impl.ReadList(s); ok || len(got) != 0 {
			t.Errorf("ReadList %.40q: got %v, %v", s, got, ok)
		}
	}
}

func TestCheckOf(t *testing.T) {
	for _, c := range []struct {
		start int64
		s     string
		want  int64
	}{
		{0, "", 0}, {65002, "", 65002}, {17, "", 17}, {0, "a", 276}, {0, "ab", (907*276 + 98 + 179) % 65003},
		{1, "\x00", 907 + 179}, {0, "\xff", 434}, {0, "é", 14551}, {65002, "a", 65003 - 907 + 276},
		{0, strings.Repeat("best plans ", 9), checkSlowly(0, strings.Repeat("best plans ", 9))},
		{65002, strings.Repeat("\xff", 30000), checkSlowly(65002, strings.Repeat("\xff", 30000))},
	} {
		if got, ok := impl.CheckOf(c.start, c.s); !ok || got != c.want {
			t.Errorf("CheckOf %d %.20q: got %d, %v, want %d", c.start, c.s, got, ok, c.want)
		}
	}
	for _, start := range []int64{-1, 65003, math.MinInt64, math.MaxInt64} {
		for _, s := range []string{"", "a"} {
			if got, ok := impl.CheckOf(start, s); ok || got != 0 {
				t.Errorf("CheckOf %d %q: got %d, %v", start, s, got, ok)
			}
		}
	}
}

// checkSlowly takes remainders by subtraction.
func checkSlowly(start int64, s string) int64 {
	check := start
	for _, c := range []byte(s) {
		check = 907*check + int64(c) + 179
		for check >= 65003 {
			check -= 65003
		}
	}
	return check
}
