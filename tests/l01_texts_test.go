package tests

import (
	"math"
	"strings"
	"testing"

	"loop.example/g01365/impl"
)

// numberTexts have lists of numbers and their texts.
var numberTexts = []struct {
	list []float32
	text string
}{
	{nil, "none"},
	{[]float32{}, "none"},
	{[]float32{0}, "00000000"},
	{[]float32{num(0x80000000)}, "80000000"},
	{[]float32{1, -2}, "3f800000,c0000000"},
	{[]float32{num(1), num(0x807fffff), num(0x00800000)}, "00000001,807fffff,00800000"},
	{[]float32{num(0x7f800000), num(0xff800000), num(0x7f7fffff)}, "7f800000,ff800000,7f7fffff"},
	{[]float32{num(0x7fc00000)}, "7fc00000"},
	{[]float32{num(0x0000abcd), num(0x0ef01234)}, "0000abcd,0ef01234"},
	{[]float32{0.1, 0.1}, "3dcccccd,3dcccccd"},
}

// otherNaNs are the bits of not-a-numbers that no text has.
var otherNaNs = []uint32{0x7f800001, 0x7fbfffff, 0x7fc00001, 0x7fffffff, 0xff800001, 0xffc00000, 0xffc00001, 0xffffffff}

func TestNumbersTextAndBack(t *testing.T) {
	for _, c := range numberTexts {
		is(t, "NumbersText of "+show(c.list), show(impl.NumbersText(c.list)), show(c.text, true))
		is(t, "ReadNumbers of "+c.text, show(impl.ReadNumbers(c.text)), show(c.list, true))
	}
	for _, bits := range otherNaNs {
		is(t, "NumbersText of a not-a-number", show(impl.NumbersText([]float32{num(bits)})), `"7fc00000" true`)
	}
	for _, x := range samples() {
		text, ok := impl.NumbersText([]float32{x})
		list, back := impl.ReadNumbers(text)
		is(t, "a number that is read back", show(ok, len(text) == 8, list, back), show(true, true, []float32{x}, true))
	}
}

// badNumbers are words that are no numbers of 8 digits.
var badNumbers = []string{
	"", " ", "0", "3f80000", "3f8000000", "3F800000", "3f80000A", "ABCDEFAB", "3f80000g", "3f80000`", "3f80000:", "3f80000/", "3f80000@",
	" 3f80000", "3f80000 ", "3f800000 ", " 3f800000", "+3f80000", "-3f80000", "0x3f8000", "3f80_000", "3f800.00", "3f80000\x00", "3f80000\n", "3f800000\n",
	"None", "NONE", "nan", "non", "nonenone", "none ", "3f80000\xff", "\xff\xff\xff\xff\xff\xff\xff\xff", "3f8000é", "０000", "０00000", "٣f80000",
}

func TestReadNumbersFails(t *testing.T) {
	for _, s := range badNumbers {
		for _, text := range []string{s, "3f800000," + s, s + ",3f800000", "3f800000," + s + ",3f800000"} {
			is(t, "ReadNumbers of "+text, show(impl.ReadNumbers(text)), "[] false")
		}
	}
	for _, text := range []string{
		",", ",,", "none,", ",none", "none,none", "none,3f800000", "3f800000,none", "3f800000;3f800000", "3f800000, 3f800000",
		"7f800001", "7fc00001", "7fffffff", "ff800001", "ffc00000", "ffffffff", "3f800000,ffc00000", "3f80000000000000",
	} {
		is(t, "ReadNumbers of "+text, show(impl.ReadNumbers(text)), "[] false")
	}
}

// repeated returns a text of n equal words.
func repeated(word string, n int) string {
	return strings.Join(copies(word, n), ",")
}

func TestTextsOfNumbersHaveALimit(t *testing.T) {
	list, text := copies[float32](0.5, 256), repeated("3f000000", 256)
	is(t, "NumbersText of 256", show(impl.NumbersText(list)), show(text, true))
	is(t, "ReadNumbers of 256", show(impl.ReadNumbers(text)), show(list, true))
	is(t, "NumbersText of 257", show(impl.NumbersText(copies[float32](0.5, 257))), `"" false`)
	is(t, "ReadNumbers of 257", show(impl.ReadNumbers(repeated("3f000000", 257))), "[] false")
	is(t, "ReadNumbers of 100000", show(impl.ReadNumbers(repeated("3f000000", 100000))), "[] false")
}

// pairTexts have lists of complex numbers and their texts.
var pairTexts = []struct {
	list []complex64
	text string
}{
	{nil, "none"},
	{[]complex64{}, "none"},
	{[]complex64{1}, "3f80000000000000"},
	{[]complex64{complex(0, 1)}, "000000003f800000"},
	{[]complex64{1, complex(0, -2)}, "3f80000000000000,00000000c0000000"},
	{[]complex64{pair(0x80000000, 0x7fc00000), pair(0x7fc00000, 1)}, "800000007fc00000,7fc0000000000001"},
	{[]complex64{pair(0xff800000, 0x7f800000)}, "ff8000007f800000"},
	{[]complex64{pair(0x0abcdef1, 0x02345678)}, "0abcdef102345678"},
}

func TestComplexTextAndBack(t *testing.T) {
	for _, c := range pairTexts {
		is(t, "ComplexText of "+show(c.list), show(impl.ComplexText(c.list)), show(c.text, true))
		is(t, "ReadComplex of "+c.text, show(impl.ReadComplex(c.text)), show(c.list, true))
	}
	for _, bits := range otherNaNs {
		list := []complex64{pair(bits, 0), pair(0, bits)}
		is(t, "ComplexText of not-a-numbers", show(impl.ComplexText(list)), `"7fc0000000000000,000000007fc00000" true`)
	}
	for _, re := range specials() {
		for _, im := range specials() {
			list := []complex64{complex(re, im)}
			text, ok := impl.ComplexText(list)
			back, again := impl.ReadComplex(text)
			is(t, "a complex number that is read back", show(ok, len(text) == 16, back, again), show(true, true, list, true))
		}
	}
}

func TestReadComplexFails(t *testing.T) {
	for _, s := range badNumbers {
		words := []string{s, "3f800000" + s, s + "3f800000"}
		for _, word := range words {
			for _, text := range []string{word, "3f80000000000000," + word, word + ",3f80000000000000"} {
				is(t, "ReadComplex of "+text, show(impl.ReadComplex(text)), "[] false")
			}
		}
	}
	for _, text := range []string{
		",", "none,", ",none", "none,none", "none,3f80000000000000", "3f800000", "3f800000,3f800000", "3f8000000,0000000",
		"3f80000000000000,", ",3f80000000000000", "3f80000000000000,3f800000", "3f800000000000000000000000000000",
		"7f80000100000000", "000000007f800001", "7fc00000ffc00000", "ffc000007fc00000", "ffffffffffffffff",
	} {
		is(t, "ReadComplex of "+text, show(impl.ReadComplex(text)), "[] false")
	}
}

func TestTextsOfComplexNumbersHaveALimit(t *testing.T) {
	list, text := copies[complex64](complex(0.5, -2), 256), repeated("3f000000c0000000", 256)
	is(t, "ComplexText of 256", show(impl.ComplexText(list)), show(text, true))
	is(t, "ReadComplex of 256", show(impl.ReadComplex(text)), show(list, true))
	is(t, "ComplexText of 257", show(impl.ComplexText(copies[complex64](1, 257))), `"" false`)
	is(t, "ReadComplex of 257", show(impl.ReadComplex(repeated("3f80000000000000", 257))), "[] false")
	is(t, "ReadComplex of 100000", show(impl.ReadComplex(repeated("3f80000000000000", 100000))), "[] false")
}

func TestIsNameTakesOneToEightSmallLetters(t *testing.T) {
	for _, s := range []string{"a", "z", "ring", "abcdefgh", "zzzzzzzz", "none"} {
		if !impl.IsName(s) {
			t.Errorf("IsName of %q: got false", s)
		}
	}
	for _, s := range []string{
		"", "abcdefghi", strings.Repeat("a", 1000), "A", "Z", "aB", "a1", "1", "a b", " a", "a ", "a\n", "a_b", "a-b", "a,b",
		"`", "{", "a`", "a{", "é", "aé", "ａ", "\x00", "a\x00", "\xff", "a\xe1",
	} {
		if impl.IsName(s) {
			t.Errorf("IsName of %q: got true", s)
		}
	}
	for b := range 256 {
		for _, s := range []string{string([]byte{byte(b)}), string([]byte{'a', byte(b)}), string([]byte{byte(b), 'a'})} {
			if got, want := impl.IsName(s), b >= 'a' && b <= 'z'; got != want {
				t.Errorf("IsName of %q: got %v", s, got)
			}
		}
	}
}

// decimals have numbers and their texts.
var decimals = []struct {
	n    int64
	text string
}{
	{0, "0"}, {7, "7"}, {-4, "-4"}, {10, "10"}, {-10, "-10"}, {101, "101"}, {1234567890, "1234567890"},
	{999999999999999, "999999999999999"}, {-999999999999999, "-999999999999999"},
	{1000000000000000, "1000000000000000"}, {-1000000000000000, "-1000000000000000"},
}

// greatDecimals have numbers beyond MaxValue, and their texts.
var greatDecimals = []struct {
	n    int64
	text string
}{
	{1000000000000001, "1000000000000001"}, {-1000000000000001, "-1000000000000001"},
	{10000000000000000, "10000000000000000"},
	{math.MaxInt64, "9223372036854775807"}, {math.MinInt64, "-9223372036854775808"},
}

// badDecimals are words that are no numbers in decimal.
var badDecimals = []string{
	"", " ", "-", "+", "+1", "+0", "-0", "00", "01", "-01", "007", "0000000000000000000001", "--1", "1-", " 1", "1 ", "-1 ", "1\n", "\t1", "1_000", "1,000",
	"0x10", "0b1", "0o7", "1e3", "1.0", "1.", ".5", "a", "1a", "a1", "ff", "None", "inf", "nan", "１", "٣", "−1", "1\x00", "\xff", "½",
	"1000000000000001", "-1000000000000001", "9223372036854775807", "-9223372036854775808", "9223372036854775808", "18446744073709551616", "18446744073709551617",
	"340282366920938463463374607431768211457", "-340282366920938463463374607431768211455",
}

func TestDecimalAndBack(t *testing.T) {
	for _, c := range decimals {
		is(t, "Decimal", show(impl.Decimal(c.n)), show(c.text))
		is(t, "ReadDecimal of "+c.text, show(impl.ReadDecimal(c.text)), show(c.n, true))
	}
	for _, c := range greatDecimals {
		is(t, "Decimal", show(impl.Decimal(c.n)), show(c.text))
		is(t, "ReadDecimal of "+c.text, show(impl.ReadDecimal(c.text)), "0 false")
	}
	for _, s := range badDecimals {
		is(t, "ReadDecimal of "+s, show(impl.ReadDecimal(s)), "0 false")
	}
	is(t, "ReadDecimal of none", show(impl.ReadDecimal("none")), "0 false")
	for n := int64(-1500); n <= 1500; n++ {
		is(t, "a number that is read back", show(impl.ReadDecimal(impl.Decimal(n))), show(n, true))
	}
}

// decimalLists have lists of integers and their texts.
var decimalLists = []struct {
	list []int64
	text string
}{
	{nil, "none"}, {[]int64{}, "none"}, {[]int64{0}, "0"}, {[]int64{1, -2, 30}, "1,-2,30"}, {[]int64{0, 0}, "0,0"},
	{[]int64{impl.MaxValue, -impl.MaxValue}, "1000000000000000,-1000000000000000"},
	{[]int64{3, 1, 2, 1}, "3,1,2,1"},
}

func TestListTextAndBack(t *testing.T) {
	for _, c := range decimalLists {
		is(t, "ListText of "+show(c.list), show(impl.ListText(c.list)), show(c.text, true))
		is(t, "ReadList of "+c.text, show(impl.ReadList(c.text)), show(c.list, true))
	}
	for _, c := range greatDecimals {
		for _, list := range [][]int64{{c.n}, {1, c.n}, {c.n, 1}, {1, c.n, 1}} {
			is(t, "ListText of "+show(list), show(impl.ListText(list)), `"" false`)
		}
	}
}

func TestReadListFails(t *testing.T) {
	for _, s := range badDecimals {
		for _, text := range []string{s, "1," + s, s + ",1", "1," + s + ",1"} {
			is(t, "ReadList of "+text, show(impl.ReadList(text)), "[] false")
		}
	}
	for _, text := range []string{",", ",,", "none,", ",none", "none,none", "none,1", "1,none", "none ", "nonen", "1;2", "1, 2", "1 ,2", "[1]", "1,2\n"} {
		is(t, "ReadList of "+text, show(impl.ReadList(text)), "[] false")
	}
}

func TestListsHaveALimit(t *testing.T) {
	list, text := copies(int64(-impl.MaxValue), 64), repeated("-1000000000000000", 64)
	is(t, "ListText of 64", show(impl.ListText(list)), show(text, true))
	is(t, "ReadList of 64", show(impl.ReadList(text)), show(list, true))
	is(t, "ListText of 65", show(impl.ListText(copies(int64(1), 65))), `"" false`)
	is(t, "ReadList of 65", show(impl.ReadList(repeated("1", 65))), "[] false")
	is(t, "ListText of 5000", show(impl.ListText(copies(int64(1), 5000))), `"" false`)
	is(t, "ReadList of 100000", show(impl.ReadList(repeated("1", 100000))), "[] false")
}

// TestTextsHaveOneForm changes each byte of texts: what can still be read must be
// written in just the same way.
func TestTextsHaveOneForm(t *testing.T) {
	texts := []string{"none", "3f800000", "7fc00000,ff800000", "3f800000c0000000", "000000007fc00000,8000000000000001", "-12", "10,-205,0"}
	check := func(s string) {
		if list, ok := impl.ReadNumbers(s); ok {
			is(t, "ReadNumbers of "+s, show(impl.NumbersText(list)), show(s, true))
		}
		if list, ok := impl.ReadComplex(s); ok {
			is(t, "ReadComplex of "+s, show(impl.ComplexText(list)), show(s, true))
		}
		if n, ok := impl.ReadDecimal(s); ok {
			is(t, "ReadDecimal of "+s, show(impl.Decimal(n)), show(s))
		}
		if list, ok := impl.ReadList(s); ok {
			is(t, "ReadList of "+s, show(impl.ListText(list)), show(s, true))
		}
	}
	for _, text := range texts {
		for i := range text {
			for b := range 256 {
				check(text[:i] + string([]byte{byte(b)}) + text[i+1:])
				check(text[:i] + string([]byte{byte(b)}) + text[i:])
			}
			check(text[:i] + text[i+1:])
		}
	}
}

// checkReference is the check number by the remainder of each byte.
func checkReference(start int64, s string) int64 {
	for _, b := range []byte(s) {
		start = (start*937 + int64(b) + 197) % 65003
	}
	return start
}

func TestCheckOfGoesByteByByte(t *testing.T) {
	every := make([]byte, 256)
	for i := range every {
		every[i] = byte(i)
	}
	for _, c := range []struct {
		start int64
		text  string
		check int64
	}{
		{0, "", 0}, {65002, "", 65002}, {1234, "", 1234},
		{0, "a", 294}, {1, "a", 1231}, {65002, "a", 64360}, {0, "\x00", 197}, {0, "\xff", 452},
		{0, "ab", 15761}, {0, "ba", 16697}, {294, "b", 15761},
	} {
		is(t, "CheckOf "+c.text, show(impl.CheckOf(c.start, c.text)), show(c.check, true))
	}
	for _, s := range []string{"é", "\xc3", "\x80\x81", "\n", string(every), strings.Repeat("z", 70000), strings.Repeat(string(every), 100)} {
		for _, start := range []int64{0, 1, 937, 65001, 65002} {
			is(t, "CheckOf", show(impl.CheckOf(start, s)), show(checkReference(start, s), true))
		}
	}
	for b := range 256 {
		s := string([]byte{byte(b)})
		is(t, "CheckOf one byte", show(impl.CheckOf(0, s)), show(int64(b+197), true))
	}
}

func TestCheckOfGoesOnWhereItEnded(t *testing.T) {
	text := "a text of any bytes, \x00 and \xff, too"
	whole, _ := impl.CheckOf(17, text)
	for i := range text {
		half, ok := impl.CheckOf(17, text[:i])
		is(t, "CheckOf in two parts", show(ok), "true")
		is(t, "CheckOf in two parts", show(impl.CheckOf(half, text[i:])), show(whole, true))
	}
}

func TestCheckOfNeedsACheckNumber(t *testing.T) {
	for _, start := range []int64{-1, 65003, 65004, 130006, -65003, math.MaxInt64, math.MinInt64} {
		for _, s := range []string{"", "a", "some text"} {
			is(t, "CheckOf with a bad start", show(impl.CheckOf(start, s)), "0 false")
		}
	}
}
