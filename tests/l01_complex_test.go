package tests

import (
	"math"
	"math/big"
	"testing"

	"loop.example/g01365/impl"
)

// exactProduct returns a b in exact numbers.
func exactProduct(a, b float32) *big.Float {
	x, y := big.NewFloat(float64(a)), big.NewFloat(float64(b))
	return new(big.Float).SetPrec(1000).Mul(x, y)
}

// wideSum returns x + y, or x - y, rounded to a 64-bit number.
func wideSum(x, y *big.Float, minus bool) *big.Float {
	z := new(big.Float).SetPrec(1000)
	if minus {
		z.Sub(x, y)
	} else {
		z.Add(x, y)
	}
	return z.SetPrec(53)
}

func narrowed(x *big.Float) float32 {
	f, _ := x.Float32()
	return f
}

// mulReference is the product of finite complex numbers, by numbers with many digits.
func mulReference(x, y complex64) (*big.Float, *big.Float) {
	re := wideSum(exactProduct(real(x), real(y)), exactProduct(imag(x), imag(y)), true)
	im := wideSum(exactProduct(real(x), imag(y)), exactProduct(imag(x), real(y)), false)
	return re, im
}

func powerReference(x complex64) *big.Float {
	return wideSum(exactProduct(real(x), real(x)), exactProduct(imag(x), imag(x)), false)
}

func TestProductsQuotientsAndPowersToTheLastBit(t *testing.T) {
	d := dice(3)
	for range 20000 {
		x, y := d.pair(), d.pair()
		re, im := mulReference(x, y)
		is(t, "MulComplex "+show(x, y), show(impl.MulComplex(x, y)), show(complex(narrowed(re), narrowed(im))))
		power := powerReference(x)
		is(t, "PowerOf "+show(x), show(impl.PowerOf(x)), show(narrowed(power)))
		long := new(big.Float).SetPrec(53).Sqrt(power)
		is(t, "LongOf "+show(x), show(impl.LongOf(x)), show(narrowed(long)))
		by := powerReference(y)
		if by.Sign() == 0 {
			continue
		}
		re, im = mulReference(x, complex(real(y), -imag(y)))
		q := complex(narrowed(re.Quo(re, by)), narrowed(im.Quo(im, by)))
		is(t, "QuotientOf "+show(x, y), show(impl.QuotientOf(x, y)), show(q))
	}
}

// TestProductsAtTies has products that come out otherwise when parts are
// rounded earlier, later or together.
func TestProductsAtTies(t *testing.T) {
	for _, c := range [][6]uint32{
		{0x342fd52a, 0xc8d68000, 0x453d2d00, 0xbb20175a, 0xc486238d, 0xce9e8234},
		{0x3465d2e5, 0x41a40000, 0x34334800, 0xc6b92e90, 0x48ed43a8, 0xbba6227e},
		{0x35c60810, 0xc0aa8000, 0x475fd500, 0xb3682aaa, 0x3dad25a4, 0xc895135c},
		{0x38543060, 0xc27e8000, 0xc67a7d00, 0x32e8c9fa, 0xbf4f9ebc, 0x49790544},
		{0x3f49274a, 0xbf462784, 0xc068cacb, 0x4010c99e, 0xbf8db154, 0x4092faa7},
		{0x3f77a49d, 0xbfaecc94, 0x3f97340d, 0xc000b925, 0xbfcd4e62, 0xc063c39e},
		{0x401ae00d, 0x3f65768d, 0xbf2ebf20, 0xbff12a5e, 0x3d175837, 0xc0a57aca},
	} {
		got := impl.MulComplex(pair(c[0], c[1]), pair(c[2], c[3]))
		is(t, "MulComplex", show(got), show(pair(c[4], c[5])))
	}
	for _, c := range [][6]uint32{
		{0x34274791, 0xb3d3cd5e, 0x400efd44, 0xc24931be, 0x310feb53, 0x314e743e},
		{0x3f33941d, 0xbf4f5475, 0xbfd6779d, 0x3ff79c32, 0xbed65ade, 0xb0ee9a47},
		{0x3f49274a, 0xbf462784, 0xc068cacb, 0x4010c99e, 0xbe809daa, 0x3d67af1e},
		{0x3b565a2f, 0xbe0c9d5b, 0x32c8b2a1, 0x3396ab84, 0xc9d55c15, 0xc9197b8e},
		{0x3f30f6e1, 0xc00f0f4c, 0xc0774252, 0xbfd87856, 0x3d7f8a52, 0x3f0d2038},
	} {
		got := impl.QuotientOf(pair(c[0], c[1]), pair(c[2], c[3]))
		is(t, "QuotientOf", show(got), show(pair(c[4], c[5])))
	}
}

func TestPowersAtTies(t *testing.T) {
	for _, c := range [][4]uint32{
		{0x332cfebd, 0xc304a800, 0x46897b5c, 0x4304a800},
		{0x34438a14, 0xc4010800, 0x48821220, 0x44010800},
		{0x3453cad5, 0x43a17800, 0x47cbb050, 0x43a17800},
		{0x3250591e, 0x35d87e2c, 0x2c3717cf, 0x35d87fbd},
		{0x3742bd0a, 0xb4de3af0, 0x2f145349, 0x3742dcbb},
		{0xc0783e03, 0x3f7c2ebf, 0x41801f7b, 0x40800fbc},
		{0x3f081720, 0xc013cf0e, 0x40b3b9f6, 0x4017ac86},
	} {
		x := pair(c[0], c[1])
		is(t, "PowerOf, LongOf", show(impl.PowerOf(x), impl.LongOf(x)), show(num(c[2]), num(c[3])))
	}
}

func TestProductsOfSmallIntegersAreExact(t *testing.T) {
	for a := -12; a <= 12; a++ {
		for b := -12; b <= 12; b += 3 {
			for c := -12; c <= 12; c += 2 {
				for d := -12; d <= 12; d += 5 {
					x := complex(float32(a), float32(b))
					y := complex(float32(c), float32(d))
					want := complex(float32(a*c-b*d), float32(a*d+b*c))
					// By ==, to which both zeros are equal.
					if got := impl.MulComplex(x, y); got != want {
						t.Fatalf("MulComplex of %v and %v: got %v", x, y, got)
					}
					if got := impl.PowerOf(x); got != float32(a*a+b*b) {
						t.Fatalf("PowerOf %v: got %v", x, got)
					}
					if y != 0 && impl.QuotientOf(want, y) != x {
						t.Fatalf("QuotientOf %v and %v: got %v", want, y, impl.QuotientOf(want, y))
					}
				}
			}
		}
	}
}

// mulEdges has both parts of two numbers and of their product: zeros with signs,
// infinities, not-a-numbers, parts too great or too small for 32 bits.
var mulEdges = [][6]uint32{
	{0x00000000, 0x00000000, 0x00000000, 0x00000000, 0x00000000, 0x00000000},
	{0x80000000, 0x00000000, 0x3f800000, 0x00000000, 0x80000000, 0x00000000},
	{0x80000000, 0x80000000, 0x3f800000, 0x00000000, 0x00000000, 0x80000000},
	{0x3f800000, 0x80000000, 0x3f800000, 0x00000000, 0x3f800000, 0x00000000},
	{0x3f800000, 0x00000000, 0x3f800000, 0x80000000, 0x3f800000, 0x00000000},
	{0x3f800000, 0x80000000, 0x3f800000, 0x80000000, 0x3f800000, 0x80000000},
	{0x80000000, 0x00000000, 0x00000000, 0x80000000, 0x00000000, 0x00000000},
	{0x7f800000, 0x00000000, 0x3f800000, 0x00000000, 0x7f800000, 0x7fc00000},
	{0x7f800000, 0x3f800000, 0x3f800000, 0x00000000, 0x7f800000, 0x7fc00000},
	{0x7f800000, 0x7f800000, 0x3f800000, 0x3f800000, 0x7fc00000, 0x7f800000},
	{0x7f800000, 0x3f800000, 0x40000000, 0x3f800000, 0x7f800000, 0x7f800000},
	{0x3f800000, 0x40000000, 0x7f800000, 0x40400000, 0x7f800000, 0x7f800000},
	{0x00000000, 0x7f800000, 0x00000000, 0x7f800000, 0xff800000, 0x7fc00000},
	{0x7f800000, 0x80000000, 0x7f800000, 0x80000000, 0x7f800000, 0x7fc00000},
	{0x7fc00000, 0x3f800000, 0x3f800000, 0x3f800000, 0x7fc00000, 0x7fc00000},
	{0x3f800000, 0x7fc00000, 0x3f800000, 0x3f800000, 0x7fc00000, 0x7fc00000},
	{0x3f800000, 0x3f800000, 0x7fc00000, 0x3f800000, 0x7fc00000, 0x7fc00000},
	{0x3f800000, 0x3f800000, 0x3f800000, 0x7fc00000, 0x7fc00000, 0x7fc00000},
	{0x71800000, 0x71800000, 0x71800000, 0x71800000, 0x00000000, 0x7f800000},
	{0x7f7fffff, 0x7f7fffff, 0x7f7fffff, 0x7f7fffff, 0x00000000, 0x7f800000},
	{0x7f7fffff, 0x00000000, 0x40000000, 0x3f800000, 0x7f800000, 0x7f7fffff},
	{0xff7fffff, 0x3f800000, 0x7f7fffff, 0x3f800000, 0xff800000, 0x00000000},
	{0x0d800000, 0x0d800000, 0x26800000, 0x27000000, 0x80000000, 0x00000002},
	{0x00000001, 0x00000001, 0x00000001, 0x80000001, 0x00000000, 0x00000000},
	{0x00000001, 0x00000000, 0x3f000000, 0x3f000000, 0x00000000, 0x00000000},
	{0x00000001, 0x00000001, 0x3f400000, 0x3e800000, 0x00000000, 0x00000001},
	{0x71800000, 0x3f800000, 0x0d800000, 0x3f800000, 0x00000000, 0x71800000},
}

func TestMulComplexAtTheEdges(t *testing.T) {
	for _, c := range mulEdges {
		x, y := pair(c[0], c[1]), pair(c[2], c[3])
		is(t, "MulComplex of "+show(x, y), show(impl.MulComplex(x, y)), show(pair(c[4], c[5])))
	}
}

// quotientEdges has both parts of two numbers and of their quotient.
var quotientEdges = [][6]uint32{
	{0x00000000, 0x40800000, 0x40000000, 0x00000000, 0x00000000, 0x40000000},
	{0x3f800000, 0x40000000, 0x00000000, 0x00000000, 0x7fc00000, 0x7fc00000},
	{0x00000000, 0x00000000, 0x00000000, 0x00000000, 0x7fc00000, 0x7fc00000},
	{0x3f800000, 0x40000000, 0x80000000, 0x80000000, 0x7fc00000, 0x7fc00000},
	{0x7f800000, 0x40000000, 0x00000000, 0x00000000, 0x7fc00000, 0x7fc00000},
	{0x3f800000, 0x3f800000, 0x7f800000, 0x00000000, 0x7fc00000, 0x7fc00000},
	{0x3f800000, 0x3f800000, 0x7f800000, 0x7f800000, 0x7fc00000, 0x7fc00000},
	{0x7f800000, 0x3f800000, 0x40000000, 0x00000000, 0x7f800000, 0x7fc00000},
	{0x7f800000, 0x7f800000, 0x3f800000, 0x3f800000, 0x7f800000, 0x7fc00000},
	{0x7f800000, 0x3f800000, 0x3f800000, 0x3f800000, 0x7f800000, 0xff800000},
	{0x7f800000, 0x00000000, 0x7f800000, 0x00000000, 0x7fc00000, 0x7fc00000},
	{0x7fc00000, 0x3f800000, 0x3f800000, 0x3f800000, 0x7fc00000, 0x7fc00000},
	{0x3f800000, 0x7fc00000, 0x3f800000, 0x3f800000, 0x7fc00000, 0x7fc00000},
	{0x3f800000, 0x3f800000, 0x7fc00000, 0x3f800000, 0x7fc00000, 0x7fc00000},
	{0x3f800000, 0x3f800000, 0x3f800000, 0x7fc00000, 0x7fc00000, 0x7fc00000},
	{0x3f800000, 0x00000000, 0x3f800000, 0x00000000, 0x3f800000, 0x00000000},
	{0x80000000, 0x00000000, 0x3f800000, 0x00000000, 0x00000000, 0x00000000},
	{0x3f800000, 0x80000000, 0x3f800000, 0x00000000, 0x3f800000, 0x80000000},
	{0x3f800000, 0x00000000, 0xbf800000, 0x00000000, 0xbf800000, 0x80000000},
	{0x00000000, 0x3f800000, 0x00000000, 0x3f800000, 0x3f800000, 0x00000000},
	{0x00000000, 0x3f800000, 0x80000000, 0x3f800000, 0x3f800000, 0x80000000},
	{0x3f800000, 0x3f800000, 0x3f800000, 0x80000000, 0x3f800000, 0x3f800000},
	{0x71800000, 0x71800000, 0x71800000, 0x71800000, 0x3f800000, 0x00000000},
	{0x7f7fffff, 0x7f7fffff, 0x7f7fffff, 0x7f7fffff, 0x3f800000, 0x00000000},
	{0x7f7fffff, 0x7f7fffff, 0x3f000000, 0x00000000, 0x7f800000, 0x7f800000},
	{0x00000001, 0x00000001, 0x00000001, 0x00000001, 0x3f800000, 0x00000000},
	{0x00000001, 0x00000000, 0x00000001, 0x80000000, 0x3f800000, 0x00000000},
	{0x00000001, 0x00000000, 0x40000000, 0x00000000, 0x00000000, 0x00000000},
	{0x00000001, 0x00000000, 0x7f7fffff, 0x7f7fffff, 0x00000000, 0x80000000},
	{0x3f800000, 0x00000000, 0x00000001, 0x00000000, 0x7f800000, 0x00000000},
	{0x7f7fffff, 0x00000000, 0x00000001, 0x00000001, 0x7f800000, 0xff800000},
	{0x03800000, 0x00000000, 0x49800000, 0x00000000, 0x00000200, 0x00000000},
}

func TestQuotientOfAtTheEdges(t *testing.T) {
	for _, c := range quotientEdges {
		x, y := pair(c[0], c[1]), pair(c[2], c[3])
		is(t, "QuotientOf "+show(x, y), show(impl.QuotientOf(x, y)), show(pair(c[4], c[5])))
	}
}

// powerEdges has both parts of a number, its power, and the root of this.
var powerEdges = [][4]uint32{
	{0x00000000, 0x00000000, 0x00000000, 0x00000000},
	{0x80000000, 0x80000000, 0x00000000, 0x00000000},
	{0x40400000, 0x40800000, 0x41c80000, 0x40a00000},
	{0xc0400000, 0x40800000, 0x41c80000, 0x40a00000},
	{0x40400000, 0xc0800000, 0x41c80000, 0x40a00000},
	{0x7f800000, 0x3f800000, 0x7f800000, 0x7f800000},
	{0x3f800000, 0xff800000, 0x7f800000, 0x7f800000},
	{0xff800000, 0x7f800000, 0x7f800000, 0x7f800000},
	{0x7fc00000, 0x3f800000, 0x7fc00000, 0x7fc00000},
	{0x3f800000, 0x7fc00000, 0x7fc00000, 0x7fc00000},
	{0x7f800000, 0x7fc00000, 0x7fc00000, 0x7fc00000},
	{0x7fc00000, 0x7f800000, 0x7fc00000, 0x7fc00000},
	{0x00000001, 0x00000000, 0x00000000, 0x00000001},
	{0x00000001, 0x00000001, 0x00000000, 0x00000001},
	{0x1a000000, 0x00000000, 0x00000000, 0x1a000000},
	{0x1a000000, 0x1a000000, 0x00000001, 0x1a3504f3},
	{0x17800000, 0x19800000, 0x00000000, 0x19803ff0},
	{0x1c800000, 0x1b800000, 0x00000220, 0x1c83f07b},
	{0x5f800000, 0x00000000, 0x7f800000, 0x5f800000},
	{0x5f000000, 0x5f000000, 0x7f000000, 0x5f3504f3},
	{0x5f000000, 0x5f400000, 0x7f500000, 0x5f66c15a},
	{0x71800000, 0x71800000, 0x7f800000, 0x71b504f3},
	{0x7f7fffff, 0x00000000, 0x7f800000, 0x7f7fffff},
	{0x7f7fffff, 0x7f7fffff, 0x7f800000, 0x7f800000},
	{0x7f7fffff, 0x3f800000, 0x7f800000, 0x7f7fffff},
	{0x0d800000, 0x0d800000, 0x00000000, 0x0db504f3},
	{0x3f800000, 0x3f800000, 0x40000000, 0x3fb504f3},
	{0x3f800000, 0x39800000, 0x3f800000, 0x3f800000},
}

func TestPowerOfAndLongOfAtTheEdges(t *testing.T) {
	for _, c := range powerEdges {
		x := pair(c[0], c[1])
		is(t, "PowerOf, LongOf "+show(x), show(impl.PowerOf(x), impl.LongOf(x)), show(num(c[2]), num(c[3])))
	}
}

func TestScaleComplexMultipliesBothParts(t *testing.T) {
	inf, nan, minus := num(0x7f800000), num(0x7fc00000), num(0x80000000)
	for _, c := range []struct {
		x    complex64
		by   float32
		want complex64
	}{
		{complex(1, 2), 0.5, complex(0.5, 1)},
		{complex(1, minus), 2, complex(2, minus)}, // as a product of complex numbers, it has +0
		{complex(1, 2), minus, complex(minus, minus)},
		{complex(-1, 2), 0, complex(minus, 0)},
		{complex(inf, 1), 1, complex(inf, 1)},
		{complex(inf, 1), 0, complex(nan, 0)},
		{complex(1, -2), inf, complex(inf, -inf)},
		{complex(0, 1), inf, complex(nan, inf)},
		{complex(1, 2), nan, complex(nan, nan)},
		{complex(nan, 2), 2, complex(nan, 4)},
		{complex(3e38, 1), 2, complex(inf, 2)},
		{pair(1, 3), 0.5, pair(0, 2)}, // ties to even
		{complex(0.1, 0.7), 3, pair(0x3e99999a, 0x40066666)},
	} {
		is(t, "ScaleComplex of "+show(c.x, c.by), show(impl.ScaleComplex(c.x, c.by)), show(c.want))
	}
	d := dice(4)
	for range 20000 {
		x, by := d.pair(), d.finite()
		re, im := narrowed(exactProduct(real(x), by)), narrowed(exactProduct(imag(x), by))
		is(t, "ScaleComplex of "+show(x, by), show(impl.ScaleComplex(x, by)), show(complex(re, im)))
	}
}

func TestConjugateOfTurnsTheSignOfTheImaginaryPart(t *testing.T) {
	for _, re := range specials() {
		for _, im := range specials() {
			want := complex(re, num(math.Float32bits(im)^0x80000000))
			is(t, "ConjugateOf", show(impl.ConjugateOf(complex(re, im))), show(want))
		}
	}
}
