package tests

import (
	"testing"

	"loop.example/g01365/impl"
)

// copies returns a list of n equal items.
func copies[T any](x T, n int) []T {
	list := make([]T, n)
	for i := range list {
		list[i] = x
	}
	return list
}

// plus is x + y: by twice the digits, so that rounding twice changes nothing.
func plus(x, y float32) float32 {
	return float32(float64(x) + float64(y))
}

func times(x, y float32) float32 {
	return float32(float64(x) * float64(y))
}

// sumLists have lists and their sums.
var sumLists = []struct {
	list []float32
	sum  uint32
}{
	{nil, 0},
	{[]float32{}, 0},
	{[]float32{1, 2, 3.5}, 0x40d00000},
	{[]float32{num(0x80000000)}, 0}, // begun with +0
	{[]float32{num(0x80000000), num(0x80000000)}, 0},
	{[]float32{1, -1}, 0},
	{[]float32{16777216, 1, 1}, 0x4b800000}, // in order, each sum a tie
	{[]float32{1, 1, 16777216}, 0x4b800001},
	{[]float32{16777216, 1, -16777216}, 0},
	{[]float32{16777218, 1}, 0x4b800002},
	{[]float32{1e30, 1, -1e30}, 0},
	{[]float32{1, 1e30, -1e30}, 0},
	{[]float32{1e30, -1e30, 1}, 0x3f800000},
	{[]float32{num(0x7f7fffff), num(0x7f7fffff), num(0xff7fffff)}, 0x7f800000}, // stays infinite
	{[]float32{num(0x7f7fffff), num(0xff7fffff), num(0x7f7fffff)}, 0x7f7fffff},
	{[]float32{num(0x7f800000), 1}, 0x7f800000},
	{[]float32{num(0x7f800000), num(0xff800000)}, 0x7fc00000},
	{[]float32{1, num(0x7f800001), 2}, 0x7fc00000},
	{[]float32{num(1), num(1)}, 2}, // subnormal ones stay
	{[]float32{num(0x00800000), num(0x80000001)}, 0x007fffff},
}

func TestSumNumbersAddsInOrder(t *testing.T) {
	for _, c := range sumLists {
		is(t, "SumNumbers of "+show(c.list), show(impl.SumNumbers(c.list)), show(num(c.sum), true))
	}
	d := dice(7)
	for n := range 257 {
		list, want := make([]float32, n), float32(0)
		for i := range list {
			list[i] = d.finite()
			want = plus(want, list[i])
		}
		is(t, "SumNumbers of "+show(list), show(impl.SumNumbers(list)), show(want, true))
	}
}

func TestSumNumbersHasALimit(t *testing.T) {
	is(t, "SumNumbers of 256", show(impl.SumNumbers(copies[float32](0.5, 256))), show(float32(128), true))
	is(t, "SumNumbers of 257", show(impl.SumNumbers(copies[float32](0.5, 257))), "00000000 false")
	is(t, "SumNumbers of 5000", show(impl.SumNumbers(copies[float32](0.5, 5000))), "00000000 false")
}

func TestDotNumbersRoundsEachProduct(t *testing.T) {
	minus, inf := num(0x80000000), num(0x7f800000)
	almost := float32(1 + 0x1p-12) // its square is a tie, rounded down
	for _, c := range []struct {
		a, b []float32
		sum  uint32
	}{
		{nil, []float32{}, 0},
		{[]float32{1, 2}, []float32{3, 4}, 0x41300000},
		{[]float32{minus}, []float32{1}, 0},
		{[]float32{-(1 + 0x1p-11), almost}, []float32{1, almost}, 0}, // a fused product leaves 2^-24
		{[]float32{almost, 1}, []float32{almost, -(1 + 0x1p-11)}, 0},
		{[]float32{16777216, 1, 1}, []float32{1, 1, 1}, 0x4b800000},
		{[]float32{1, 1, 16777216}, []float32{1, 1, 1}, 0x4b800001},
		{[]float32{1e30, 1e30}, []float32{1e30, -1e30}, 0x7fc00000}, // products are infinite
		{[]float32{num(1), num(1)}, []float32{0.5, 0.5}, 0},         // products are zeros
		{[]float32{num(3), num(3)}, []float32{0.5, 0.5}, 4},
		{[]float32{inf}, []float32{0}, 0x7fc00000},
		{[]float32{inf}, []float32{-1}, 0xff800000},
		{[]float32{1, num(0x7fc00000)}, []float32{1, 1}, 0x7fc00000},
	} {
		is(t, "DotNumbers of "+show(c.a, c.b), show(impl.DotNumbers(c.a, c.b)), show(num(c.sum), true))
	}
	d := dice(8)
	for n := range 257 {
		a, b, want := make([]float32, n), make([]float32, n), float32(0)
		for i := range a {
			a[i], b[i] = d.finite(), d.finite()
			want = plus(want, times(a[i], b[i]))
		}
		is(t, "DotNumbers of "+show(a, b), show(impl.DotNumbers(a, b)), show(want, true))
	}
}

// badLengths are lengths of two lists that have no sum of products.
var badLengths = [][2]int{{0, 1}, {1, 0}, {2, 3}, {3, 2}, {255, 256}, {256, 255}, {256, 257}, {257, 256}, {257, 257}, {1000, 1000}, {0, 257}}

func TestDotNumbersNeedsListsOfOneLength(t *testing.T) {
	for _, n := range badLengths {
		got := show(impl.DotNumbers(copies[float32](1, n[0]), copies[float32](1, n[1])))
		is(t, "DotNumbers of bad lengths", got, "00000000 false")
	}
	most := copies[float32](1, 256)
	is(t, "DotNumbers of 256", show(impl.DotNumbers(most, most)), show(float32(256), true))
}

func TestSumComplexAddsPartsInOrder(t *testing.T) {
	for _, a := range sumLists {
		for _, b := range sumLists {
			if len(a.list) != len(b.list) {
				continue
			}
			list := make([]complex64, len(a.list))
			for i := range list {
				list[i] = complex(a.list[i], b.list[i])
			}
			is(t, "SumComplex of "+show(list), show(impl.SumComplex(list)), show(pair(a.sum, b.sum), true))
		}
	}
	d := dice(9)
	for n := range 257 {
		list, re, im := make([]complex64, n), float32(0), float32(0)
		for i := range list {
			list[i] = d.pair()
			re, im = plus(re, real(list[i])), plus(im, imag(list[i]))
		}
		is(t, "SumComplex of "+show(list), show(impl.SumComplex(list)), show(complex(re, im), true))
	}
}

func TestSumComplexHasALimit(t *testing.T) {
	is(t, "SumComplex of none", show(impl.SumComplex(nil)), "(00000000 00000000) true")
	is(t, "SumComplex of 256", show(impl.SumComplex(copies[complex64](complex(1, -2), 256))), show(complex64(complex(256, -512)), true))
	is(t, "SumComplex of 257", show(impl.SumComplex(copies[complex64](1, 257))), "(00000000 00000000) false")
	is(t, "SumComplex of 5000", show(impl.SumComplex(copies[complex64](1, 5000))), "(00000000 00000000) false")
}

// productReference is the product of finite complex numbers, narrowed.
func productReference(x, y complex64) complex64 {
	re, im := mulReference(x, y)
	return complex(narrowed(re), narrowed(im))
}

func TestDotComplexAndDotConjugateAddNarrowedProducts(t *testing.T) {
	d := dice(10)
	for n := range 257 {
		a, b := make([]complex64, n), make([]complex64, n)
		var re, im, otherRe, otherIm float32
		for i := range a {
			a[i], b[i] = d.pair(), d.pair()
			p := productReference(a[i], b[i])
			re, im = plus(re, real(p)), plus(im, imag(p))
			q := productReference(complex(real(a[i]), -imag(a[i])), b[i])
			otherRe, otherIm = plus(otherRe, real(q)), plus(otherIm, imag(q))
		}
		is(t, "DotComplex of "+show(a, b), show(impl.DotComplex(a, b)), show(complex(re, im), true))
		is(t, "DotConjugate of "+show(a, b), show(impl.DotConjugate(a, b)), show(complex(otherRe, otherIm), true))
	}
}

func TestDotComplexAtTheEdges(t *testing.T) {
	inf, minus := num(0x7f800000), num(0x80000000)
	big := complex64(complex(16777216, -16777216))
	ones := copies[complex64](1, 3)
	for _, c := range []struct {
		a, b         []complex64
		dot, conjDot complex64
	}{
		{nil, nil, 0, 0},
		{[]complex64{complex(0, 1)}, []complex64{complex(0, 1)}, -1, 1},
		{[]complex64{complex(1, 2)}, []complex64{complex(3, -1)}, complex(5, 5), complex(1, -7)},
		{[]complex64{complex(minus, minus)}, []complex64{1}, 0, 0},
		{[]complex64{big, complex(1, -1), complex(1, -1)}, ones, big, complex(16777216, 16777216)},
		{[]complex64{complex(1, -1), complex(1, -1), big}, ones, complex(16777218, -16777218), complex(16777218, 16777218)},
		{[]complex64{complex(inf, 1)}, []complex64{complex(2, 1)}, complex(inf, inf), complex(inf, inf)},
		{[]complex64{1e30, 1e30}, []complex64{1e30, -1e30}, pair(0x7fc00000, 0), pair(0x7fc00000, 0)},
	} {
		is(t, "DotComplex of "+show(c.a, c.b), show(impl.DotComplex(c.a, c.b)), show(c.dot, true))
		is(t, "DotConjugate of "+show(c.a, c.b), show(impl.DotConjugate(c.a, c.b)), show(c.conjDot, true))
	}
}

func TestDotComplexNeedsListsOfOneLength(t *testing.T) {
	for _, n := range badLengths {
		a, b := copies[complex64](1, n[0]), copies[complex64](1, n[1])
		is(t, "DotComplex of bad lengths", show(impl.DotComplex(a, b)), "(00000000 00000000) false")
		is(t, "DotConjugate of bad lengths", show(impl.DotConjugate(a, b)), "(00000000 00000000) false")
	}
	most := copies[complex64](complex(0, 1), 256)
	is(t, "DotComplex of 256", show(impl.DotComplex(most, most)), show(complex64(-256), true))
	is(t, "DotConjugate of 256", show(impl.DotConjugate(most, most)), show(complex64(256), true))
}

func TestPowersOfAddsWidePowers(t *testing.T) {
	inf, nan := num(0x7f800000), num(0x7fc00000)
	for _, c := range []struct {
		list []complex64
		sum  uint32
	}{
		{nil, 0},
		{[]complex64{complex(3, 4), 1}, 0x41d00000},
		{[]complex64{4096, 1, 1}, 0x4b800001}, // not rounded before the end
		{[]complex64{1, 1, 4096}, 0x4b800001},
		{[]complex64{4096, 1}, 0x4b800000}, // a tie in the end
		{[]complex64{1 + 0x1p-12, 0x1p-12}, 0x3f801001},
		{[]complex64{pair(0x1a000000, 0), pair(0x1a000000, 0)}, 1}, // 2^-150 twice
		{[]complex64{1e20}, 0x7f800000},
		{[]complex64{0x1p63, 0x1p63}, 0x7f000000},
		{[]complex64{complex(inf, 1), 1}, 0x7f800000},
		{[]complex64{1, complex(1, nan)}, 0x7fc00000},
		{[]complex64{complex(inf, nan)}, 0x7fc00000},
	} {
		is(t, "PowersOf "+show(c.list), show(impl.PowersOf(c.list)), show(num(c.sum), true))
	}
	d := dice(11)
	for n := range 257 {
		list, sum := make([]complex64, n), wide(0)
		for i := range list {
			list[i] = d.pair()
			sum = add(sum, powerReference(list[i]))
		}
		is(t, "PowersOf "+show(list), show(impl.PowersOf(list)), show(narrowed(sum), true))
	}
}

func TestPowersOfAddsInOrder(t *testing.T) {
	// As 64-bit numbers, each 1 is lost behind 2^54, but three before it are not;
	// 2^30 more makes a tie of what is narrowed.
	great, tie := complex64(0x1p27), complex64(0x1p15)
	is(t, "PowersOf, great first", show(impl.PowersOf([]complex64{great, tie, 1, 1, 1})), show(num(0x5a800000), true))
	is(t, "PowersOf, great last", show(impl.PowersOf([]complex64{1, 1, 1, tie, great})), show(num(0x5a800001), true))
}

func TestPowersOfHasALimit(t *testing.T) {
	is(t, "PowersOf 256", show(impl.PowersOf(copies[complex64](complex(1, 1), 256))), show(float32(512), true))
	is(t, "PowersOf 257", show(impl.PowersOf(copies[complex64](1, 257))), "00000000 false")
	is(t, "PowersOf 5000", show(impl.PowersOf(copies[complex64](1, 5000))), "00000000 false")
}
