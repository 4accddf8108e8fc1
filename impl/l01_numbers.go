package impl

import (
	"math"
	"strconv"
	"strings"
)

// Limits of chapter 1.
const (
	MaxNumbers = 256
	MaxValue   = 1000000000000000
	MaxItems   = 64
	CheckSize  = 65003
)

// notANumberBits stands for every not-a-number, since all of them are one value.
const notANumberBits = 0x7fc00000

// numberDigits is how many hexadecimal digits 32 bits have.
const numberDigits = 8

// noItems is the text of an empty list.
const noItems = "none"

// Products of floats are converted to their own type throughout this file:
// without that, Go may fuse a product with the sum it goes into and round once.

// SameNumber reports whether two numbers are the same.
func SameNumber(a, b float32) bool {
	return BitsOf(a) == BitsOf(b)
}

// IsFinite reports whether x is finite.
func IsFinite(x float32) bool {
	return math.Abs(float64(x)) <= math.MaxFloat32
}

// BitsOf returns the bits of a number.
func BitsOf(x float32) int64 {
	if math.IsNaN(float64(x)) {
		return notANumberBits
	}
	return int64(math.Float32bits(x))
}

// FromBits returns the number with the given bits.
func FromBits(n int64) (float32, bool) {
	if n < 0 || n > math.MaxUint32 {
		return 0, false
	}
	return math.Float32frombits(uint32(n)), true
}

// NarrowNumber returns the nearest 32-bit number.
func NarrowNumber(x float64) float32 {
	return float32(x)
}

// IsSubnormal reports whether x is subnormal.
func IsSubnormal(x float32) bool {
	return x != 0 && math.Abs(float64(x)) < 0x1p-126
}

// FlushNumber returns x, but a zero if it is subnormal.
func FlushNumber(x float32) float32 {
	if IsSubnormal(x) {
		return float32(math.Copysign(0, float64(x)))
	}
	return x
}

// SameComplex reports whether two complex numbers are the same.
func SameComplex(a, b complex64) bool {
	return SameNumber(real(a), real(b)) && SameNumber(imag(a), imag(b))
}

// IsFiniteComplex reports whether both parts are finite.
func IsFiniteComplex(x complex64) bool {
	return IsFinite(real(x)) && IsFinite(imag(x))
}

// NarrowComplex returns a number with narrowed parts.
func NarrowComplex(x complex128) complex64 {
	return complex(NarrowNumber(real(x)), NarrowNumber(imag(x)))
}

// MulComplex returns a product.
func MulComplex(x, y complex64) complex64 {
	return NarrowComplex(wideProduct(x, y))
}

// wideProduct spells the product out, because Go's own one promises less about its roundings.
func wideProduct(x, y complex64) complex128 {
	a, b := float64(real(x)), float64(imag(x))
	c, d := float64(real(y)), float64(imag(y))
	return complex(float64(a*c)-float64(b*d), float64(a*d)+float64(b*c))
}

// ScaleComplex returns a product with a number.
func ScaleComplex(x complex64, by float32) complex64 {
	return complex(float32(real(x)*by), float32(imag(x)*by))
}

// ConjugateOf returns the conjugate.
func ConjugateOf(x complex64) complex64 {
	return complex(real(x), -imag(x))
}

// PowerOf returns the power.
func PowerOf(x complex64) float32 {
	return NarrowNumber(widePower(x))
}

// widePower returns the power before it is narrowed.
func widePower(x complex64) float64 {
	a, b := float64(real(x)), float64(imag(x))
	return float64(a*a) + float64(b*b)
}

// LongOf returns the root of the power.
func LongOf(x complex64) float32 {
	return NarrowNumber(math.Sqrt(widePower(x)))
}

// QuotientOf returns a quotient.
func QuotientOf(x, y complex64) complex64 {
	product := wideProduct(x, ConjugateOf(y))
	power := widePower(y)
	return complex(NarrowNumber(real(product)/power), NarrowNumber(imag(product)/power))
}

// fullTurn returns the angle of one turn, twice pi.
func fullTurn() float64 {
	return 6.283185307179586
}

// turnPart returns what is left of less than 2^52 turns without whole ones; it
// can be 1, where a tiny part below 0 has been rounded.
func turnPart(turns float64) float64 {
	// An integer has no sign at 0, so -0 less it stays -0.
	part := turns - float64(int64(turns))
	if part < 0 {
		return part + 1
	}
	return part
}

// areManyTurns reports whether turns are so many that no part of one can be told.
func areManyTurns(turns float64) bool {
	return math.Abs(turns) >= 0x1p52
}

// isWideFinite reports whether a 64-bit number is finite.
func isWideFinite(x float64) bool {
	return math.Abs(x) <= math.MaxFloat64
}

// sineOf returns the sine of less than 2^52 turns.
func sineOf(turns float64) float64 {
	part := turnPart(turns)
	isTurned := part >= 0.5
	if isTurned {
		part -= 0.5
	}
	if part > 0.25 {
		part = 0.5 - part
	}
	z := part * fullTurn()
	u := z * z
	p := 1.0
	for k := 8.0; k >= 1; k-- {
		p = 1 - float64(u*p)/(2*k*(2*k+1))
	}
	if isTurned {
		return -(z * p)
	}
	return z * p
}

// PhasorOf returns a point of the unit circle.
func PhasorOf(turns float64) complex64 {
	if !isWideFinite(turns) {
		nan := float32(math.NaN())
		return complex(nan, nan)
	}
	if areManyTurns(turns) {
		return 1
	}
	part := turnPart(turns)
	quarters := 0
	for part >= 0.25 {
		part -= 0.25
		quarters++
	}
	c, s := sineOf(0.25-part), sineOf(part)
	// 0 - s is not -s: for a zero it is +0.
	switch quarters {
	case 1:
		return NarrowComplex(complex(0-s, c))
	case 2:
		return NarrowComplex(complex(0-c, 0-s))
	case 3:
		return NarrowComplex(complex(s, 0-c))
	}
	return NarrowComplex(complex(c, s))
}

// AngleOf returns the angle in turns.
func AngleOf(x complex64) float32 {
	return AngleTurns(imag(x), real(x))
}

// SineTurns returns the sine of some turns.
func SineTurns(x float32) float32 {
	if !IsFinite(x) {
		return float32(math.NaN())
	}
	if areManyTurns(float64(x)) {
		return 0
	}
	return NarrowNumber(sineOf(float64(x)))
}

// AngleTurns returns the angle of a point.
func AngleTurns(y, x float32) float32 {
	if !IsFinite(y) || !IsFinite(x) {
		return float32(math.NaN())
	}
	if y == 0 && x == 0 {
		return 0
	}
	angle := steepAngle(math.Abs(float64(y)), math.Abs(float64(x)))
	if x < 0 {
		angle = 0.5 - angle
	}
	if y < 0 {
		angle = -angle
	}
	return NarrowNumber(angle)
}

// steepAngle returns the angle, up to 0.25 turns, of a point with the height a
// and the width b, which are at least 0, and not both 0.
func steepAngle(a, b float64) float64 {
	if a > b {
		return 0.25 - flatAngle(b/a)
	}
	return flatAngle(a / b)
}

// flatAngle returns the angle with the tangent t from 0 to 1, in turns.
func flatAngle(t float64) float64 {
	for range 3 {
		t = t / (1 + math.Sqrt(1+float64(t*t)))
	}
	u := t * t
	p := 0.0
	for k := 15.0; k >= 1; k -= 2 {
		p = 1/k - float64(u*p)
	}
	return 8 * float64(t*p) / fullTurn()
}

// TenthsOf returns tenths of decibels.
func TenthsOf(power float32) (int64, bool) {
	if !IsFinite(power) || power <= 0 {
		return 0, false
	}
	tenths := float64(logOf(float64(power)) * 43.42944819032518)
	return int64(math.Floor(tenths + 0.5)), true
}

// logOf returns the natural logarithm of a finite number greater than 0.
func logOf(x float64) float64 {
	e := 0.0
	for x >= 1.5 {
		x /= 2
		e++
	}
	for x < 0.75 {
		x *= 2
		e--
	}
	s := (x - 1) / (x + 1)
	u := s * s
	q := 0.0
	for k := 25.0; k >= 1; k -= 2 {
		q = 1/k + float64(u*q)
	}
	return 2*float64(s*q) + float64(e*0.6931471805599453)
}

// RootNumber returns the square root.
func RootNumber(x float32) float32 {
	return NarrowNumber(math.Sqrt(float64(x)))
}

// ExpNumber returns e to a power.
func ExpNumber(x float32) float32 {
	if x > 200 {
		return float32(math.Inf(1))
	}
	if x < -200 {
		return 0
	}
	t := float64(x) / 256
	p := 1.0
	for k := 12.0; k >= 1; k-- {
		p = 1 + float64(t*p)/k
	}
	for range 8 {
		p *= p
	}
	return NarrowNumber(p)
}

// LogNumber returns the logarithm.
func LogNumber(x float32) float32 {
	switch {
	case x == 0:
		return float32(math.Inf(-1))
	case x > math.MaxFloat32:
		return x
	case x > 0:
		return NarrowNumber(logOf(float64(x)))
	}
	return float32(math.NaN())
}

// SumNumbers returns the sum from left to right.
func SumNumbers(list []float32) (float32, bool) {
	if len(list) > MaxNumbers {
		return 0, false
	}
	sum := float32(0)
	for _, x := range list {
		sum += x
	}
	return sum, true
}

// arePaired reports whether lists of m and n numbers can be multiplied one by one.
func arePaired(m, n int) bool {
	return m == n && n <= MaxNumbers
}

// DotNumbers returns the sum of products.
func DotNumbers(a, b []float32) (float32, bool) {
	if !arePaired(len(a), len(b)) {
		return 0, false
	}
	sum := float32(0)
	for i := range a {
		sum += float32(a[i] * b[i])
	}
	return sum, true
}

// SumComplex returns the sum from left to right.
func SumComplex(list []complex64) (complex64, bool) {
	if len(list) > MaxNumbers {
		return 0, false
	}
	var sum complex64
	for _, x := range list {
		sum = addComplex(sum, x)
	}
	return sum, true
}

// addComplex returns the sum of both parts, each rounded on its own.
func addComplex(x, y complex64) complex64 {
	return complex(real(x)+real(y), imag(x)+imag(y))
}

// DotComplex returns the sum of products.
func DotComplex(a, b []complex64) (complex64, bool) {
	return sumOfProducts(a, b, MulComplex)
}

// DotConjugate returns the sum of products with conjugates.
func DotConjugate(a, b []complex64) (complex64, bool) {
	return sumOfProducts(a, b, func(x, y complex64) complex64 {
		return MulComplex(ConjugateOf(x), y)
	})
}

// sumOfProducts adds products of any kind from left to right.
func sumOfProducts(a, b []complex64, product func(x, y complex64) complex64) (complex64, bool) {
	if !arePaired(len(a), len(b)) {
		return 0, false
	}
	var sum complex64
	for i := range a {
		sum = addComplex(sum, product(a[i], b[i]))
	}
	return sum, true
}

// PowersOf returns the sum of powers.
func PowersOf(list []complex64) (float32, bool) {
	if len(list) > MaxNumbers {
		return 0, false
	}
	sum := 0.0
	for _, x := range list {
		sum += widePower(x)
	}
	return NarrowNumber(sum), true
}

// itemsText joins the texts of at most so many items, and fails if an item has none.
func itemsText[T any](list []T, most int, text func(T) (string, bool)) (string, bool) {
	if len(list) > most {
		return "", false
	}
	if len(list) == 0 {
		return noItems, true
	}
	words := make([]string, len(list))
	for i, item := range list {
		word, ok := text(item)
		if !ok {
			return "", false
		}
		words[i] = word
	}
	return strings.Join(words, ","), true
}

// readItems reads what itemsText has written.
func readItems[T any](s string, most int, read func(string) (T, bool)) ([]T, bool) {
	if s == noItems {
		return nil, true
	}
	if strings.Count(s, ",") >= most {
		return nil, false
	}
	words := strings.Split(s, ",")
	list := make([]T, len(words))
	for i, word := range words {
		item, ok := read(word)
		if !ok {
			return nil, false
		}
		list[i] = item
	}
	return list, true
}

// numberText returns the hexadecimal digits of a number.
func numberText(x float32) (string, bool) {
	digits := strconv.FormatInt(BitsOf(x), 16)
	return strings.Repeat("0", numberDigits-len(digits)) + digits, true
}

// hexDigit returns the number that a hexadecimal digit stands for.
func hexDigit(r rune) (int64, bool) {
	switch {
	case r >= '0' && r <= '9':
		return int64(r - '0'), true
	case r >= 'a' && r <= 'f':
		return int64(r-'a') + 10, true
	}
	return 0, false
}

// readNumber reads what numberText has written.
func readNumber(word string) (float32, bool) {
	if len(word) != numberDigits {
		return 0, false
	}
	bits := int64(0)
	for _, r := range word {
		digit, ok := hexDigit(r)
		if !ok {
			return 0, false
		}
		bits = bits*16 + digit
	}
	x, ok := FromBits(bits)
	// No text is written with the other bits that not-a-numbers can have.
	if !ok || BitsOf(x) != bits {
		return 0, false
	}
	return x, true
}

// pairText returns the hexadecimal digits of both parts.
func pairText(x complex64) (string, bool) {
	re, _ := numberText(real(x))
	im, _ := numberText(imag(x))
	return re + im, true
}

// readPair reads what pairText has written.
func readPair(word string) (complex64, bool) {
	if len(word) != 2*numberDigits {
		return 0, false
	}
	re, reOK := readNumber(word[:numberDigits])
	im, imOK := readNumber(word[numberDigits:])
	if !reOK || !imOK {
		return 0, false
	}
	return complex(re, im), true
}

// NumbersText returns the text of numbers.
func NumbersText(list []float32) (string, bool) {
	return itemsText(list, MaxNumbers, numberText)
}

// ReadNumbers returns the numbers with the given text.
func ReadNumbers(s string) ([]float32, bool) {
	return readItems(s, MaxNumbers, readNumber)
}

// ComplexText returns the text of complex numbers.
func ComplexText(list []complex64) (string, bool) {
	return itemsText(list, MaxNumbers, pairText)
}

// ReadComplex returns the complex numbers with the given text.
func ReadComplex(s string) ([]complex64, bool) {
	return readItems(s, MaxNumbers, readPair)
}

// IsName reports whether s is a name.
func IsName(s string) bool {
	if len(s) < 1 || len(s) > 8 {
		return false
	}
	for _, r := range s {
		if r < 'a' || r > 'z' {
			return false
		}
	}
	return true
}

// Decimal returns n in decimal.
func Decimal(n int64) string {
	return strconv.FormatInt(n, 10)
}

// isValue reports whether texts of lists can have n.
func isValue(n int64) bool {
	return n >= -MaxValue && n <= MaxValue
}

// ReadDecimal returns the number with the given decimal text.
func ReadDecimal(s string) (int64, bool) {
	n, err := strconv.ParseInt(s, 10, 64)
	// ParseInt also takes signs and zeros that Decimal never writes.
	if err != nil || !isValue(n) || Decimal(n) != s {
		return 0, false
	}
	return n, true
}

// valueText returns n in decimal, within the bounds of ReadDecimal.
func valueText(n int64) (string, bool) {
	if !isValue(n) {
		return "", false
	}
	return Decimal(n), true
}

// ListText returns the text of a list.
func ListText(list []int64) (string, bool) {
	return itemsText(list, MaxItems, valueText)
}

// ReadList returns the list with the given text.
func ReadList(s string) ([]int64, bool) {
	return readItems(s, MaxItems, ReadDecimal)
}

// CheckOf returns the check number of a text.
func CheckOf(start int64, s string) (int64, bool) {
	if start < 0 || start >= CheckSize {
		return 0, false
	}
	check := start
	for i := range len(s) {
		check = (937*check + int64(s[i]) + 197) % CheckSize
	}
	return check, true
}
