package impl

import (
	"math"
	"strconv"
	"strings"
)

// Limits of chapter 1.
const (
	MaxNumbers = 256
	MaxValue   = 1000000000000000
	MaxItems   = 64
	CheckSize  = 65003
)

// Throughout this file, a product is converted to its own type before it is
// added to something: the language lets a compiler join both operations and
// round only once, and the conversion is what keeps it from doing so.

// SameNumber reports whether two numbers are the same.
func SameNumber(a, b float32) bool { return BitsOf(a) == BitsOf(b) }

// IsFinite reports whether x is finite.
func IsFinite(x float32) bool { return isFinite64(float64(x)) }

func isFinite64(x float64) bool { return !math.IsNaN(x) && !math.IsInf(x, 0) }

// BitsOf returns the bits of a number.
func BitsOf(x float32) int64 {
	const bitsOfNaN = 0x7fc00000
	if x != x {
		return bitsOfNaN // all not-a-numbers are one value, whatever bits they carry
	}
	return int64(math.Float32bits(x))
}

// FromBits returns the number with the given bits.
func FromBits(n int64) (float32, bool) {
	if n < 0 || n > math.MaxUint32 {
		return 0, false
	}
	return math.Float32frombits(uint32(n)), true
}

// NarrowNumber returns the nearest 32-bit number.
func NarrowNumber(x float64) float32 { return float32(x) }

// IsSubnormal reports whether x is subnormal.
func IsSubnormal(x float32) bool {
	return x != 0 && math.Abs(float64(x)) < 0x1p-126
}

// FlushNumber returns x, but a zero if it is subnormal.
func FlushNumber(x float32) float32 {
	if IsSubnormal(x) {
		return float32(math.Copysign(0, float64(x)))
	}
	return x
}

// SameComplex reports whether two complex numbers are the same.
func SameComplex(a, b complex64) bool {
	return SameNumber(real(a), real(b)) && SameNumber(imag(a), imag(b))
}

// IsFiniteComplex reports whether both parts are finite.
func IsFiniteComplex(x complex64) bool {
	return IsFinite(real(x)) && IsFinite(imag(x))
}

// NarrowComplex returns a number with narrowed parts.
func NarrowComplex(x complex128) complex64 {
	return complex(NarrowNumber(real(x)), NarrowNumber(imag(x)))
}

// widen returns both parts as 64-bit numbers.
func widen(x complex64) (float64, float64) {
	return float64(real(x)), float64(imag(x))
}

// wideProduct returns a product before its parts are narrowed. It is written
// out because the product of the language may treat infinities in its own way.
func wideProduct(x, y complex64) (float64, float64) {
	a, b := widen(x)
	c, d := widen(y)
	return float64(a*c) - float64(b*d), float64(a*d) + float64(b*c)
}

// widePower returns the power of a number before it is narrowed.
func widePower(x complex64) float64 {
	a, b := widen(x)
	return float64(a*a) + float64(b*b)
}

// MulComplex returns a product.
func MulComplex(x, y complex64) complex64 {
	re, im := wideProduct(x, y)
	return NarrowComplex(complex(re, im))
}

// ScaleComplex returns a product with a number.
func ScaleComplex(x complex64, by float32) complex64 {
	return complex(float32(real(x)*by), float32(imag(x)*by))
}

// ConjugateOf returns the conjugate.
func ConjugateOf(x complex64) complex64 { return complex(real(x), -imag(x)) }

// PowerOf returns the power.
func PowerOf(x complex64) float32 { return NarrowNumber(widePower(x)) }

// LongOf returns the root of the power.
func LongOf(x complex64) float32 { return NarrowNumber(math.Sqrt(widePower(x))) }

// QuotientOf returns a quotient.
func QuotientOf(x, y complex64) complex64 {
	re, im := wideProduct(x, ConjugateOf(y))
	power := widePower(y)
	return NarrowComplex(complex(re/power, im/power))
}

// fullCircle returns a turn as the length of its arc.
func fullCircle() float64 { return 6.283185307179586 }

// isWhole reports whether turns are so many that no part of one is left.
func isWhole(turns float64) bool { return math.Abs(turns) >= 1<<52 }

// partOfTurn returns what is left of turns that are not whole, from 0 to 1. The
// integer is taken away as one: it has no sign, so that -0 stays -0.
func partOfTurn(turns float64) float64 {
	f := turns - float64(int64(turns))
	if f < 0 {
		f += 1
	}
	return f
}

// wideSine returns the sine of turns that are not whole.
func wideSine(turns float64) float64 {
	f := partOfTurn(turns)
	turned := f >= 0.5
	if turned {
		f -= 0.5
	}
	if f > 0.25 {
		f = 0.5 - f
	}
	z := float64(f * fullCircle())
	u := float64(z * z)
	p := 1.0
	for k := 8; k >= 1; k-- {
		p = 1 - float64(u*p)/float64(2*k*(2*k+1))
	}
	if turned {
		return -float64(z * p)
	}
	return float64(z * p)
}

// PhasorOf returns a point of the unit circle.
func PhasorOf(turns float64) complex64 {
	if !isFinite64(turns) {
		return NarrowComplex(complex(math.NaN(), math.NaN()))
	}
	if isWhole(turns) {
		return 1
	}
	f := partOfTurn(turns)
	q := 0
	for f >= 0.25 {
		f -= 0.25
		q++
	}
	c, s := wideSine(0.25-f), wideSine(f)
	// The opposites are differences from +0, and so never -0.
	switch q {
	case 1:
		return NarrowComplex(complex(0-s, c))
	case 2:
		return NarrowComplex(complex(0-c, 0-s))
	case 3:
		return NarrowComplex(complex(s, 0-c))
	}
	return NarrowComplex(complex(c, s))
}

// AngleOf returns the angle in turns.
func AngleOf(x complex64) float32 { return AngleTurns(imag(x), real(x)) }

// SineTurns returns the sine of some turns.
func SineTurns(x float32) float32 {
	if !IsFinite(x) {
		return float32(math.NaN())
	}
	if isWhole(float64(x)) {
		return 0
	}
	return NarrowNumber(wideSine(float64(x)))
}

// AngleTurns returns the angle of a point.
func AngleTurns(y, x float32) float32 {
	if !IsFinite(x) || !IsFinite(y) {
		return float32(math.NaN())
	}
	if x == 0 && y == 0 {
		return 0
	}
	a, b := math.Abs(float64(y)), math.Abs(float64(x))
	steep := a > b
	if steep {
		a, b = b, a
	}
	angle := shallowAngle(a / b)
	if steep {
		angle = 0.25 - angle
	}
	if x < 0 {
		angle = 0.5 - angle
	}
	if y < 0 {
		angle = -angle
	}
	return NarrowNumber(angle)
}

// shallowAngle returns the angle with the tangent t, from 0 to 1, in turns. The
// tangent is made that of an eighth of the angle, as the series needs a small one.
func shallowAngle(t float64) float64 {
	for range 3 {
		t = t / (1 + math.Sqrt(1+float64(t*t)))
	}
	u := float64(t * t)
	p := 0.0
	for k := 15; k >= 1; k -= 2 {
		p = 1/float64(k) - float64(u*p)
	}
	return float64(8*float64(t*p)) / fullCircle()
}

// wideLog returns the logarithm of a finite number greater than 0.
func wideLog(x float64) float64 {
	const logOfTwo = 0.6931471805599453
	e := 0.0
	for x >= 1.5 {
		x /= 2
		e++
	}
	for x < 0.75 {
		x *= 2
		e--
	}
	s := (x - 1) / (x + 1)
	u := float64(s * s)
	q := 0.0
	for k := 25; k >= 1; k -= 2 {
		q = 1/float64(k) + float64(u*q)
	}
	return float64(2*float64(s*q)) + float64(e*logOfTwo)
}

// TenthsOf returns tenths of decibels.
func TenthsOf(power float32) (int64, bool) {
	const tenthsInLog = 43.42944819032518
	if !IsFinite(power) || power <= 0 {
		return 0, false
	}
	tenths := float64(wideLog(float64(power)) * tenthsInLog)
	return int64(math.Floor(tenths + 0.5)), true
}

// RootNumber returns the square root.
func RootNumber(x float32) float32 { return NarrowNumber(math.Sqrt(float64(x))) }

// ExpNumber returns e to a power.
func ExpNumber(x float32) float32 {
	if x > 200 {
		return float32(math.Inf(1))
	}
	if x < -200 {
		return 0
	}
	t := float64(x) / 256
	p := 1.0
	for k := 12; k >= 1; k-- {
		p = 1 + float64(t*p)/float64(k)
	}
	for range 8 {
		p *= p
	}
	return NarrowNumber(p)
}

// LogNumber returns the logarithm.
func LogNumber(x float32) float32 {
	switch {
	case x == 0:
		return float32(math.Inf(-1))
	case x < 0 || x != x:
		return float32(math.NaN())
	case !IsFinite(x):
		return x
	}
	return NarrowNumber(wideLog(float64(x)))
}

// SumNumbers returns the sum from left to right.
func SumNumbers(list []float32) (float32, bool) {
	if len(list) > MaxNumbers {
		return 0, false
	}
	var sum float32
	for _, x := range list {
		sum += x
	}
	return sum, true
}

// DotNumbers returns the sum of products.
func DotNumbers(a, b []float32) (float32, bool) {
	if len(a) > MaxNumbers || len(a) != len(b) {
		return 0, false
	}
	var sum float32
	for i, x := range a {
		sum += float32(x * b[i])
	}
	return sum, true
}

// SumComplex returns the sum from left to right.
func SumComplex(list []complex64) (complex64, bool) {
	if len(list) > MaxNumbers {
		return 0, false
	}
	var sum complex64
	for _, x := range list {
		sum += x
	}
	return sum, true
}

// DotComplex returns the sum of products.
func DotComplex(a, b []complex64) (complex64, bool) {
	return sumOfProducts(a, b, MulComplex)
}

// DotConjugate returns the sum of products with conjugates.
func DotConjugate(a, b []complex64) (complex64, bool) {
	return sumOfProducts(a, b, func(x, y complex64) complex64 {
		return MulComplex(ConjugateOf(x), y)
	})
}

func sumOfProducts(a, b []complex64, product func(x, y complex64) complex64) (complex64, bool) {
	if len(a) > MaxNumbers || len(a) != len(b) {
		return 0, false
	}
	var sum complex64
	for i, x := range a {
		sum += product(x, b[i])
	}
	return sum, true
}

// PowersOf returns the sum of powers.
func PowersOf(list []complex64) (float32, bool) {
	if len(list) > MaxNumbers {
		return 0, false
	}
	sum := 0.0
	for _, x := range list {
		sum += widePower(x)
	}
	return NarrowNumber(sum), true
}

// textOfList returns the texts of all items with commas between them.
func textOfList[T any](list []T, textOf func(T) string) string {
	if len(list) == 0 {
		return "none"
	}
	texts := make([]string, len(list))
	for i, item := range list {
		texts[i] = textOf(item)
	}
	return strings.Join(texts, ",")
}

// listOfText returns the list of at most most items whose texts s joins.
func listOfText[T any](s string, most int, read func(string) (T, bool)) ([]T, bool) {
	if s == "none" {
		return nil, true
	}
	if strings.Count(s, ",") >= most {
		return nil, false
	}
	var list []T
	for text := range strings.SplitSeq(s, ",") {
		item, ok := read(text)
		if !ok {
			return nil, false
		}
		list = append(list, item)
	}
	return list, true
}

// numberText returns the 8 digits of a number.
func numberText(x float32) string {
	digits := strconv.FormatInt(BitsOf(x), 16)
	return strings.Repeat("0", 8-len(digits)) + digits
}

// readNumber returns the number with the given 8 digits. A text that is not
// ASCII fails at its first rune that is no digit.
func readNumber(s string) (float32, bool) {
	if len(s) != 8 {
		return 0, false
	}
	bits := int64(0)
	for _, r := range s {
		digit, ok := hexDigit(r)
		if !ok {
			return 0, false
		}
		bits = 16*bits + digit
	}
	x, ok := FromBits(bits)
	if !ok || BitsOf(x) != bits { // not-a-numbers have just one text
		return 0, false
	}
	return x, true
}

func hexDigit(r rune) (int64, bool) {
	switch {
	case '0' <= r && r <= '9':
		return int64(r - '0'), true
	case 'a' <= r && r <= 'f':
		return int64(r-'a') + 10, true
	}
	return 0, false
}

func complexText(x complex64) string {
	return numberText(real(x)) + numberText(imag(x))
}

func readComplex(s string) (complex64, bool) {
	if len(s) != 16 {
		return 0, false
	}
	re, one := readNumber(s[:8])
	im, two := readNumber(s[8:])
	if !one || !two {
		return 0, false
	}
	return complex(re, im), true
}

// NumbersText returns the text of numbers.
func NumbersText(list []float32) (string, bool) {
	if len(list) > MaxNumbers {
		return "", false
	}
	return textOfList(list, numberText), true
}

// ReadNumbers returns the numbers with the given text.
func ReadNumbers(s string) ([]float32, bool) {
	return listOfText(s, MaxNumbers, readNumber)
}

// ComplexText returns the text of complex numbers.
func ComplexText(list []complex64) (string, bool) {
	if len(list) > MaxNumbers {
		return "", false
	}
	return textOfList(list, complexText), true
}

// ReadComplex returns the complex numbers with the given text.
func ReadComplex(s string) ([]complex64, bool) {
	return listOfText(s, MaxNumbers, readComplex)
}

// IsName reports whether s is a name.
func IsName(s string) bool {
	if len(s) < 1 || len(s) > 8 {
		return false
	}
	for _, r := range s {
		if r < 'a' || r > 'z' {
			return false
		}
	}
	return true
}

// Decimal returns n in decimal.
func Decimal(n int64) string { return strconv.FormatInt(n, 10) }

// ReadDecimal returns the number with the given decimal text.
func ReadDecimal(s string) (int64, bool) {
	n, err := strconv.ParseInt(s, 10, 64)
	if err != nil || !isValue(n) || Decimal(n) != s {
		return 0, false
	}
	return n, true
}

func isValue(n int64) bool { return -MaxValue <= n && n <= MaxValue }

// ListText returns the text of a list.
func ListText(list []int64) (string, bool) {
	if len(list) > MaxItems {
		return "", false
	}
	for _, n := range list {
		if !isValue(n) {
			return "", false
		}
	}
	return textOfList(list, Decimal), true
}

// ReadList returns the list with the given text.
func ReadList(s string) ([]int64, bool) {
	return listOfText(s, MaxItems, ReadDecimal)
}

// CheckOf returns the check number of a text.
func CheckOf(start int64, s string) (int64, bool) {
	if start < 0 || start >= CheckSize {
		return 0, false
	}
	check := start
	for i := range len(s) {
		check = (907*check + int64(s[i]) + 179) % CheckSize
	}
	return check, true
}
