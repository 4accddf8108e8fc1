package tests

import (
	"math"
	"math/big"
)

// The references of this file compute with numbers that are rounded to 53 bits
// behind each operation, and so can't be fused by any compiler.

func wide(x float64) *big.Float {
	return new(big.Float).SetPrec(53).SetFloat64(x)
}

func add(x, y *big.Float) *big.Float { return wide(0).Add(x, y) }
func sub(x, y *big.Float) *big.Float { return wide(0).Sub(x, y) }
func mul(x, y *big.Float) *big.Float { return wide(0).Mul(x, y) }
func quo(x, y *big.Float) *big.Float { return wide(0).Quo(x, y) }

func less(x *big.Float, y float64) bool { return x.Cmp(wide(y)) < 0 }

// partReference returns the part of turns behind the point, from 0 to 1.
func partReference(turns *big.Float) *big.Float {
	whole, _ := turns.Int(nil)
	part := sub(turns, wide(0).SetInt(whole))
	if part.Sign() < 0 {
		return add(part, wide(1))
	}
	return part
}

func sineReference(turns *big.Float) *big.Float {
	f := partReference(turns)
	turned := !less(f, 0.5)
	if turned {
		f = sub(f, wide(0.5))
	}
	if !less(f, 0.25) {
		f = sub(wide(0.5), f)
	}
	z := mul(f, wide(6.283185307179586))
	u, p := mul(z, z), wide(1)
	for k := 8; k >= 1; k-- {
		p = sub(wide(1), quo(mul(u, p), wide(float64(2*k*(2*k+1)))))
	}
	result := mul(z, p)
	if turned {
		result.Neg(result)
	}
	return result
}

func sineTurnsReference(x float32) float32 {
	switch {
	case x != x || math.IsInf(float64(x), 0):
		return float32(math.NaN())
	case math.Abs(float64(x)) >= 1<<52:
		return 0
	}
	return narrowed(sineReference(wide(float64(x))))
}

// phasorReference takes less than 2^52 turns.
func phasorReference(turns float64) complex64 {
	f := partReference(wide(turns))
	quarters := 0
	for ; !less(f, 0.25); quarters++ {
		f = sub(f, wide(0.25))
	}
	c, s := sineReference(sub(wide(0.25), f)), sineReference(f)
	parts := [][2]*big.Float{{c, s}, {sub(wide(0), s), c}, {sub(wide(0), c), sub(wide(0), s)}, {s, sub(wide(0), c)}}
	chosen := parts[quarters%4]
	return complex(narrowed(chosen[0]), narrowed(chosen[1]))
}

// angleReference takes finite numbers.
func angleReference(y, x float32) float32 {
	if y == 0 && x == 0 {
		return 0
	}
	a, b := wide(math.Abs(float64(y))), wide(math.Abs(float64(x)))
	steep := a.Cmp(b) > 0
	if steep {
		a, b = b, a
	}
	t := quo(a, b)
	for range 3 {
		t = quo(t, add(wide(1), wide(0).Sqrt(add(wide(1), mul(t, t)))))
	}
	u, p := mul(t, t), wide(0)
	for k := 15; k >= 1; k -= 2 {
		p = sub(quo(wide(1), wide(float64(k))), mul(u, p))
	}
	angle := quo(mul(wide(8), mul(t, p)), wide(6.283185307179586))
	if steep {
		angle = sub(wide(0.25), angle)
	}
	if x < 0 {
		angle = sub(wide(0.5), angle)
	}
	if y < 0 {
		angle.Neg(angle)
	}
	return narrowed(angle)
}

func expReference(x float32) float32 {
	switch {
	case x != x:
		return x
	case x > 200:
		return float32(math.Inf(1))
	case x < -200:
		return 0
	}
	t, p := quo(wide(float64(x)), wide(256)), wide(1)
	for k := 12; k >= 1; k-- {
		p = add(wide(1), quo(mul(t, p), wide(float64(k))))
	}
	for range 8 {
		p = mul(p, p)
	}
	return narrowed(p)
}

// logReference takes a finite number greater than 0.
func logReference(power float32) *big.Float {
	x, e := wide(float64(power)), 0
	for ; !less(x, 1.5); e++ {
		x = quo(x, wide(2))
	}
	for ; less(x, 0.75); e-- {
		x = mul(x, wide(2))
	}
	s := quo(sub(x, wide(1)), add(x, wide(1)))
	u, q := mul(s, s), wide(0)
	for k := 25; k >= 1; k -= 2 {
		q = add(quo(wide(1), wide(float64(k))), mul(u, q))
	}
	return add(mul(wide(2), mul(s, q)), mul(wide(float64(e)), wide(0.6931471805599453)))
}

// tenthsReference takes a finite number greater than 0.
func tenthsReference(power float32) int64 {
	tenths := add(mul(logReference(power), wide(43.42944819032518)), wide(0.5))
	whole, accuracy := tenths.Int64()
	if accuracy == big.Above {
		return whole - 1
	}
	return whole
}
