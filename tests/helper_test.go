package tests

import (
	"fmt"
	"math"
	"strings"
	"testing"

	"loop.example/g01365/impl"
)

// show tells values to the last bit: floats by their bits, all not-a-numbers alike.
func show(values ...any) string {
	words := make([]string, len(values))
	for i, v := range values {
		words[i] = showOne(v)
	}
	return strings.Join(words, " ")
}

func showOne(v any) string {
	switch x := v.(type) {
	case float32:
		if x != x {
			return "nan"
		}
		return fmt.Sprintf("%08x", math.Float32bits(x))
	case complex64:
		return "(" + showOne(real(x)) + " " + showOne(imag(x)) + ")"
	case string:
		return fmt.Sprintf("%q", x)
	case []float32:
		return showList(x)
	case []complex64:
		return showList(x)
	case []int64:
		return showList(x)
	case [][]int64:
		return showList(x)
	case []impl.Game:
		return showList(x)
	case []impl.Worths:
		return showList(x)
	case impl.Worths:
		return fmt.Sprintf("{%d %s}", x.Players, showList(x.Worths))
	case impl.Game:
		return fmt.Sprintf("{%d %d %s %s}", x.Rows, x.Columns, showList(x.A), showList(x.B))
	case impl.Values:
		return fmt.Sprintf("{%d %d %s}", x.Players, x.Things, showList(x.Worths))
	case impl.Wishes:
		return fmt.Sprintf("{%s %s}", showList(x.Left), showList(x.Right))
	case []impl.Wishes:
		return showList(x)
	case impl.Crowd:
		return fmt.Sprintf("{%d %d %s %s}", x.Users, x.Roads, showList(x.Ways), showList(x.Costs))
	case []impl.Crowd:
		return showList(x)
	case impl.Cake:
		return fmt.Sprintf("{%d %d %s}", x.Players, x.Pieces, showList(x.Worths))
	case impl.Player:
		return fmt.Sprintf("{%s %s}", showList(x.Moves), showList(x.Next))
	case bool, int64:
		return fmt.Sprint(x)
	}
	panic(fmt.Sprintf("show: no text for %T", v))
}

func showList[T any](list []T) string {
	words := make([]string, len(list))
	for i, x := range list {
		words[i] = showOne(x)
	}
	return "[" + strings.Join(words, " ") + "]"
}

// is ends the test if got is not what is wanted; both are texts of show.
func is(t *testing.T, what, got, want string) {
	t.Helper()
	if got != want {
		t.Fatalf("%q: got %s, want %s", short(what), short(got), short(want))
	}
}

// short keeps long lists out of what a failure prints.
func short(s string) string {
	if len(s) > 200 {
		return s[:200] + ".."
	}
	return s
}

// num returns the number with these bits.
func num(bits uint32) float32 {
	return math.Float32frombits(bits)
}

// pair returns the complex number whose parts have these bits.
func pair(re, im uint32) complex64 {
	return complex(num(re), num(im))
}

// specials are the numbers at which something changes.
func specials() []float32 {
	var list []float32
	for _, bits := range []uint32{
		0,                            // zero
		1, 2, 0x007ffffe, 0x007fffff, // subnormal ones
		0x00800000, 0x00800001, // the least normal ones
		0x1f800000, 0x20000000, // squares at the edge of the subnormal ones
		0x33000000, 0x33800000, 0x33800001, // 2^-25 and 2^-24, ties beside 1
		0x3e000000, 0x3e800000, 0x3e800001, // 1/8, 1/4
		0x3eaaaaab, 0x3effffff, 0x3f000000, 0x3f000001, // 1/3, 1/2
		0x3f3fffff, 0x3f400000, 0x3f7fffff, 0x3f800000, 0x3f800001, // 3/4, 1
		0x3fbfffff, 0x3fc00000, 0x40000000, 0x40400000, 0x40490fdb, // 1.5, 2, 3, pi
		0x42b17217, 0x42b17218, // where e to it stops being finite
		0x42cff1b4, 0x42cff1b5, // and, below 0, stops being a number other than 0
		0x4347ffff, 0x43480000, 0x43480001, // 200
		0x4b000000, 0x4b800000, 0x4b800001, // 2^23, 2^24
		0x59000000, 0x59800000, 0x5a000000, // 2^51, 2^52, 2^53
		0x5f7fffff, 0x5f800000, // squares at the edge of the finite ones
		0x7f000000, 0x7f7fffff, 0x7f800000, // the greatest ones, and infinity
		0x7f800001, 0x7fbfffff, 0x7fc00000, 0x7fffffff, // not-a-numbers
	} {
		list = append(list, num(bits), num(bits|0x80000000))
	}
	return list
}

// dice is a small generator, so that each run makes the same numbers.
type dice uint64

func (d *dice) next() uint64 {
	x := uint64(*d)
	x ^= x << 13
	x ^= x >> 7
	x ^= x << 17
	*d = dice(x)
	return x * 0x2545f4914f6cdd1d
}

// number returns a number with any bits, half of the time one near 1.
func (d *dice) number() float32 {
	r := d.next()
	if r>>63 == 0 {
		return num(uint32(r))
	}
	return num(uint32(r)&0x807fffff | uint32(117+(r>>40)%20)<<23)
}

// finite returns a number that is finite.
func (d *dice) finite() float32 {
	for {
		if x := d.number(); !math.IsInf(float64(x), 0) && x == x {
			return x
		}
	}
}

// pair returns a complex number with finite parts.
func (d *dice) pair() complex64 {
	return complex(d.finite(), d.finite())
}

// samples are the special numbers and many others.
func samples() []float32 {
	list := specials()
	for exponent := range uint32(256) {
		for _, rest := range []uint32{0, 1, 0x3fffff, 0x400000, 0x400001, 0x7fffff} {
			bits := exponent<<23 | rest
			list = append(list, num(bits), num(bits|0x80000000))
		}
	}
	d := dice(1)
	for range 20000 {
		list = append(list, d.number())
	}
	return list
}
