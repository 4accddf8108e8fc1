package tests

import (
	"math"
	"math/big"
	"testing"

	"loop.example/g01365/impl"
)

func isNaNBits(bits uint32) bool {
	return bits&0x7f800000 == 0x7f800000 && bits&0x007fffff != 0
}

func TestSameNumberComparesBits(t *testing.T) {
	for _, a := range specials() {
		for _, b := range specials() {
			m, n := math.Float32bits(a), math.Float32bits(b)
			want := m == n || isNaNBits(m) && isNaNBits(n)
			if got := impl.SameNumber(a, b); got != want {
				t.Fatalf("SameNumber of %08x and %08x: got %v", m, n, got)
			}
		}
	}
	for _, a := range samples() {
		m := math.Float32bits(a)
		if !impl.SameNumber(a, a) || !isNaNBits(m) && impl.SameNumber(a, num(m^1)) {
			t.Fatalf("SameNumber of %08x is wrong", m)
		}
	}
}

func TestSameComplexComparesBothParts(t *testing.T) {
	nan, other := num(0x7fc00000), num(0xff800001)
	negative := num(0x80000000)
	for _, c := range []struct {
		a, b complex64
		want bool
	}{
		{complex(1, 2), complex(1, 2), true},
		{complex(1, 2), complex(1, 3), false},
		{complex(1, 2), complex(3, 2), false},
		{complex(1, 2), complex(2, 1), false},
		{complex(0, 0), complex(negative, 0), false},
		{complex(0, 0), complex(0, negative), false},
		{complex(negative, 0), complex(negative, 0), true},
		{complex(nan, 1), complex(other, 1), true},
		{complex(1, nan), complex(1, other), true},
		{complex(nan, nan), complex(other, other), true},
		{complex(nan, 1), complex(nan, 2), false},
		{complex(nan, 1), complex(1, nan), false},
		{complex(nan, 1), complex(1, 1), false},
		{complex(1, nan), complex(1, 1), false},
	} {
		if impl.SameComplex(c.a, c.b) != c.want || impl.SameComplex(c.b, c.a) != c.want {
			t.Errorf("SameComplex of %s and %s is not %v", show(c.a), show(c.b), c.want)
		}
	}
}

func TestNumbersAreClassedByTheirBits(t *testing.T) {
	for _, x := range samples() {
		bits := math.Float32bits(x)
		exponent, rest := bits>>23&255, bits&0x7fffff
		if got, want := impl.IsFinite(x), exponent != 255; got != want {
			t.Fatalf("IsFinite of %08x: got %v", bits, got)
		}
		if got, want := impl.IsSubnormal(x), exponent == 0 && rest != 0; got != want {
			t.Fatalf("IsSubnormal of %08x: got %v", bits, got)
		}
		flushed := bits
		if exponent == 0 {
			flushed = bits & 0x80000000
		}
		is(t, "FlushNumber of "+show(x), show(impl.FlushNumber(x)), show(num(flushed)))
	}
}

func TestIsFiniteComplexLooksAtBothParts(t *testing.T) {
	for _, re := range specials() {
		for _, im := range specials() {
			want := math.Float32bits(re)>>23&255 != 255 && math.Float32bits(im)>>23&255 != 255
			if got := impl.IsFiniteComplex(complex(re, im)); got != want {
				t.Fatalf("IsFiniteComplex of %s: got %v", show(complex(re, im)), got)
			}
		}
	}
}

func TestBitsOfAndFromBitsAreInverse(t *testing.T) {
	for _, x := range samples() {
		bits := math.Float32bits(x)
		want := int64(bits)
		if isNaNBits(bits) {
			want = 2143289344
		}
		if got := impl.BitsOf(x); got != want {
			t.Fatalf("BitsOf of %08x: got %d, want %d", bits, got, want)
		}
		back, ok := impl.FromBits(int64(bits))
		is(t, "FromBits of "+show(x), show(back, ok), show(x, true))
	}
	is(t, "BitsOf", show(impl.BitsOf(0), impl.BitsOf(num(0x80000000)), impl.BitsOf(1), impl.BitsOf(-2)), "0 2147483648 1065353216 3221225472")
}

func TestFromBitsHasBounds(t *testing.T) {
	for _, n := range []int64{-1, -2147483648, -1 << 32, math.MinInt64, 1 << 32, 1<<32 + 1, 1<<32 + 1065353216, math.MaxInt64} {
		is(t, "FromBits out of bounds", show(impl.FromBits(n)), "00000000 false")
	}
	is(t, "FromBits of the least", show(impl.FromBits(0)), "00000000 true")
	is(t, "FromBits of the greatest", show(impl.FromBits(4294967295)), "nan true")
	is(t, "FromBits of a signaling one", show(impl.FromBits(0x7f800001)), "nan true")
	is(t, "FromBits of an infinity", show(impl.FromBits(0xff800000)), "ff800000 true")
}

// narrowings are 64-bit numbers, and the bits to which they are narrowed.
var narrowings = []struct {
	x    float64
	bits uint32
}{
	{0, 0}, {math.Copysign(0, -1), 0x80000000}, {1, 0x3f800000}, {-0.1, 0xbdcccccd},
	{1 + 0x1p-24, 0x3f800000}, {1 + 0x3p-24, 0x3f800002}, // ties to even
	{1 + 0x1p-24 + 0x1p-52, 0x3f800001}, {1 + 0x3p-24 - 0x1p-52, 0x3f800001},
	{0x1.fffffefffffffp127, 0x7f7fffff}, {0x1.ffffffp127, 0x7f800000}, {-0x1.ffffffp127, 0xff800000},
	{1e300, 0x7f800000}, {math.Inf(1), 0x7f800000}, {math.Inf(-1), 0xff800000},
	{0x1p-149, 1}, {0x1p-150, 0}, {-0x1p-150, 0x80000000}, {0x1.0000000000001p-150, 1},
	{0x1.8p-149, 2}, {0x1.4p-148, 2}, {0x1.cp-148, 4}, // ties between subnormal ones
	{0x1.fffffcp-127, 0x007fffff}, {0x1.fffffep-127, 0x00800000}, {0x1.fffffdp-127, 0x007fffff},
	{0x1p-1074, 0}, {-0x1p-1074, 0x80000000}, {-1e-300, 0x80000000},
	{math.NaN(), 0x7fc00000},
}

func TestNarrowingRoundsToTheNearest(t *testing.T) {
	for _, c := range narrowings {
		is(t, "NarrowNumber", show(impl.NarrowNumber(c.x)), show(num(c.bits)))
		is(t, "NarrowComplex", show(impl.NarrowComplex(complex(c.x, 0.1))), show(pair(c.bits, 0x3dcccccd)))
		is(t, "NarrowComplex", show(impl.NarrowComplex(complex(0.1, c.x))), show(pair(0x3dcccccd, c.bits)))
	}
	d := dice(2)
	for range 20000 {
		x := math.Ldexp(float64(int64(d.next())), int(d.next()%300)-220)
		want, _ := big.NewFloat(x).Float32()
		is(t, "NarrowNumber", show(impl.NarrowNumber(x)), show(want))
	}
}

func TestNarrowNumberKeepsNumbers(t *testing.T) {
	for _, x := range samples() {
		is(t, "NarrowNumber", show(impl.NarrowNumber(float64(x))), show(x))
	}
}

func TestRootNumberAtTheEdges(t *testing.T) {
	for _, c := range [][2]uint32{
		{0x00000000, 0x00000000},
		{0x80000000, 0x80000000},
		{0x3f800000, 0x3f800000},
		{0x40800000, 0x40000000},
		{0x41100000, 0x40400000},
		{0x40000000, 0x3fb504f3},
		{0xbf800000, 0x7fc00000},
		{0x80000001, 0x7fc00000},
		{0x00000001, 0x1a3504f3},
		{0x00000002, 0x1a800000},
		{0x3f000000, 0x3f3504f3},
		{0x00800000, 0x20000000},
		{0x7f7fffff, 0x5f7fffff},
		{0x7f800000, 0x7f800000},
		{0xff800000, 0x7fc00000},
		{0x7fc00000, 0x7fc00000},
		{0x40400000, 0x3fddb3d7},
		{0x41200000, 0x404a62c2},
		{0x3dcccccd, 0x3ea1e89b},
	} {
		is(t, "RootNumber of "+show(num(c[0])), show(impl.RootNumber(num(c[0]))), show(num(c[1])))
	}
}

func TestRootNumberToTheLastBit(t *testing.T) {
	for _, x := range samples() {
		if !(x > 0) || math.IsInf(float64(x), 1) {
			continue
		}
		root := new(big.Float).SetPrec(53).Sqrt(big.NewFloat(float64(x)))
		is(t, "RootNumber of "+show(x), show(impl.RootNumber(x)), show(narrowed(root)))
	}
}
