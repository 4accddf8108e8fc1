package tests

import (
	"math"
	"slices"
	"testing"

	"loop.example/g01365/impl"
)

// noNumber is what functions show that fail to return a number.
const noNumber = "00000000 false"

func TestValidCakeHasLimits(t *testing.T) {
	for _, c := range someCakes() {
		is(t, "ValidCake of "+show(c), show(impl.ValidCake(c)), "true")
	}
	for _, c := range wrongCakes() {
		is(t, "ValidCake of "+show(c), show(impl.ValidCake(c)), "false")
	}
	for players := int64(-2); players <= 8; players++ {
		for n := int64(-2); n <= 18; n++ {
			for size := range int64(104) {
				c := impl.Cake{Players: players, Pieces: n, Worths: copies[int64](1, int(size))}
				want := players >= 1 && players <= 6 && n >= 1 && n <= 16 && players*n == size
				is(t, "ValidCake of "+show(c), show(impl.ValidCake(c)), show(want))
			}
		}
	}
}

func TestValidCakeLooksAtEachWorth(t *testing.T) {
	for _, c := range []impl.Cake{equalPieces(1, 1, 3), equalPieces(2, 16, 1), equalPieces(6, 16, 1000)} {
		for at := range c.Worths {
			for _, worth := range []int64{0, 1, 999, 1000, 1001, -1, math.MaxInt64, math.MinInt64} {
				changed := impl.Cake{Players: c.Players, Pieces: c.Pieces, Worths: slices.Clone(c.Worths)}
				changed.Worths[at] = worth
				want := worth >= 0 && worth <= 1000 && (worth > 0 || c.Pieces > 1)
				is(t, "ValidCake of "+show(changed), show(impl.ValidCake(changed)), show(want))
			}
		}
	}
}

func TestValidCakeIsWorthSomethingToEachPlayer(t *testing.T) {
	for _, c := range []struct {
		cake impl.Cake
		want string
	}{
		{pieces([]int64{0}), "false"},
		{pieces([]int64{1}), "true"},
		{pieces([]int64{0, 0, 1}), "true"},
		{pieces([]int64{1, 0, 0}), "true"},
		{pieces([]int64{1, 0}, []int64{0, 0}), "false"},
		{pieces([]int64{0, 0}, []int64{1, 0}), "false"},
		{pieces([]int64{0, 1}, []int64{1, 0}), "true"},
		{pieces([]int64{2, -1}), "false"},
		{pieces([]int64{1000, 0}, []int64{0, 1}, []int64{0, 0}), "false"},
		{equalPieces(6, 16, 0), "false"},
	} {
		is(t, "ValidCake of "+show(c.cake), show(impl.ValidCake(c.cake)), c.want)
	}
}

func TestSameCakeComparesAllIntegers(t *testing.T) {
	var list []numbers
	for _, c := range append(someCakes()[:150], wrongCakes()...) {
		list = append(list, numbers{c.Players, c.Pieces, c.Worths})
	}
	testSameNumbers(t, "SameCake", list, func(a, b numbers) bool {
		return impl.SameCake(impl.Cake{Players: a.players, Pieces: a.width, Worths: a.worths}, impl.Cake{Players: b.players, Pieces: b.width, Worths: b.worths})
	})
}

func TestCakeWorthAddsPieces(t *testing.T) {
	d := dice(161)
	for _, c := range someCakes() {
		for i := range c.Players {
			for range 8 {
				from, to := d.place(c.Pieces), d.place(c.Pieces)
				what := "CakeWorth of " + show(c, i, from, to)
				want := noNumber
				if from <= to {
					want = show(cakeReference(c, i, from, to), true)
				}
				is(t, what, show(impl.CakeWorth(c, i, from, to)), want)
			}
			is(t, "CakeWorth of all of "+show(c, i), show(impl.CakeWorth(c, i, 0, float32(c.Pieces))), show(float32(sum(c.Worths[i*c.Pieces:][:c.Pieces])), true))
		}
	}
}

func TestCakeWorthAtTheEdges(t *testing.T) {
	minus, tiny := num(0x80000000), num(1)
	below1, above1 := num(0x3f7fffff), num(0x3f800001)
	dry := pieces([]int64{0, 7, 0})
	for _, c := range []struct {
		cake     impl.Cake
		i        int64
		from, to float32
		want     float32
	}{
		{twoPieces(), 0, 0, 2, 2},
		{twoPieces(), 1, 0, 2, 4},
		{twoPieces(), 1, 0.5, 2, 2.5},
		{twoPieces(), 1, 0.5, 0.75, 0.75},
		{twoPieces(), 1, 0, 0, 0}, // nothing is worth +0
		{twoPieces(), 1, minus, 0, 0},
		{twoPieces(), 1, 0, minus, 0}, // zeros are as far as one another
		{twoPieces(), 1, minus, minus, 0},
		{twoPieces(), 1, minus, 2, 4},
		{twoPieces(), 1, 1, 1, 0},
		{twoPieces(), 1, 2, 2, 0},
		{twoPieces(), 1, 1, 2, 1},
		{twoPieces(), 1, 0, 1, 3},
		{twoPieces(), 1, 0, tiny, num(3)},
		{twoPieces(), 1, tiny, 1, 3},
		{twoPieces(), 1, 0, below1, num(0x403fffff)}, // 3 less 3 2^-24 is nearer to it than to 3
		{twoPieces(), 1, below1, above1, plus(num(0x34400000), num(0x34000000))},
		{dry, 0, 0, 1, 0},
		{dry, 0, 2, 3, 0},
		{dry, 0, 0.5, 2.5, 7},
		{dry, 0, 0, 3, 7},
		{pieces([]int64{1}), 0, 0, 1, 1},
		{equalPieces(6, 16, 1000), 5, 0, 16, 16000},
		{equalPieces(6, 16, 1000), 5, 15.5, 16, 500},
		// Both the difference and the product are rounded.
		{pieces([]int64{1000}), 0, 0.2, 0.7, times(1000, less32(0.7, 0.2))},
		// The pieces are added from the left to the right.
		{pieces([]int64{3, 7, 11}), 0, 0.1, 2.9, plus(plus(times(3, less32(1, 0.1)), 7), times(11, less32(2.9, 2)))},
	} {
		is(t, "CakeWorth of "+show(c.cake, c.i, c.from, c.to), show(impl.CakeWorth(c.cake, c.i, c.from, c.to)), show(c.want, true))
	}
}

func TestCakeMarkIsWhereItIsWorthAsMuch(t *testing.T) {
	d := dice(162)
	for _, c := range someCakes() {
		for i := range c.Players {
			all := allCake(c, i)
			for range 8 {
				from := d.place(c.Pieces)
				worth := float32(float64(d.next()>>11) / (1 << 53) * float64(all))
				if d.from(0, 3) == 0 {
					// Just what some pieces are worth.
					worth = cakeReference(c, i, from, max(from, float32(d.from(0, c.Pieces))))
				}
				mark, ok := impl.CakeMark(c, i, from, worth)
				what := "CakeMark of " + show(c, i, from, worth)
				is(t, what, show(mark, ok), show(markReference(c, i, from, worth), true))
				// It is behind from, and within the cake, however it is rounded.
				is(t, what+" is a place", show(mark >= from, mark <= float32(c.Pieces)), "true true")
				if rest := cakeReference(c, i, from, float32(c.Pieces)); worth < rest {
					off := float64(cakeReference(c, i, from, mark)) - float64(worth)
					is(t, what+" is worth as much", show(math.Abs(off) <= 1e-5*float64(all)), "true")
				}
			}
		}
	}
}

func TestCakeMarkAtTheEdges(t *testing.T) {
	minus, tiny, huge := num(0x80000000), num(1), float32(math.MaxFloat32)
	dry := pieces([]int64{0, 0, 5, 0, 4, 0})
	for _, c := range []struct {
		cake        impl.Cake
		i           int64
		from, worth float32
		want        float32
	}{
		{twoPieces(), 1, 0, 3.5, 1.5},
		{twoPieces(), 1, 1, 9, 2}, // more than there is
		{twoPieces(), 1, 0, 3, 1}, // just one piece
		{twoPieces(), 1, 0, 4, 2}, // just all
		{twoPieces(), 1, 0, num(0x40800001), 2},
		{twoPieces(), 1, 0, huge, 2},
		{twoPieces(), 1, 0, 0, 0}, // nothing
		{twoPieces(), 1, 0, minus, 0},
		{twoPieces(), 1, minus, 0, 0},
		{twoPieces(), 1, minus, minus, 0},
		{twoPieces(), 1, minus, 1.5, 0.5},
		{twoPieces(), 1, 0.5, 0, 0.5},
		{twoPieces(), 1, 0.5, minus, 0.5},
		{twoPieces(), 1, 1, 0, 1},
		{twoPieces(), 1, 1, 0.5, 1.5}, // the piece before is not from there on
		{twoPieces(), 1, 0.5, 1.5, 1},
		{twoPieces(), 1, 0.5, 2, 1.5},
		{twoPieces(), 1, 2, 0, 2}, // no piece is left
		{twoPieces(), 1, 2, 1, 2},
		{twoPieces(), 1, 0, tiny, 0}, // a third of the least number
		{twoPieces(), 1, tiny, 3, 1},
		{dry, 0, 0, 0, 2}, // dry pieces are passed by, even for nothing
		{dry, 0, 0, minus, 2},
		{dry, 0, 1.5, 0, 2},
		{dry, 0, 2.5, 0, 2.5},
		{dry, 0, 3, 0, 4},
		{dry, 0, 3.5, 1, 4.25},
		{dry, 0, 0, 5, 3}, // and not behind it
		{dry, 0, 0, 6, 4.25},
		{dry, 0, 0, 9, 5},
		{dry, 0, 0, 9.5, 6},
		{dry, 0, 5, 0, 6}, // only a dry piece is left
		{dry, 0, 5.5, 1, 6},
		{dry, 0, 6, 0, 6},
		{equalPieces(6, 16, 1000), 5, 0, 15999, over32(15999, 1000)},
		{equalPieces(1, 1, 3), 0, 0, 1, over32(1, 3)},
		{equalPieces(1, 2, 3), 0, 0.7, 1, plus(1, over32(less32(1, times(3, less32(1, 0.7))), 3))},
	} {
		is(t, "CakeMark of "+show(c.cake, c.i, c.from, c.worth), show(impl.CakeMark(c.cake, c.i, c.from, c.worth)), show(c.want, true))
	}
}

func TestPlacesAreThoseOfTheCake(t *testing.T) {
	c := equalPieces(2, 3, 4)
	for _, wrong := range append(wrongPlaces(), math.Nextafter32(3, 4)) {
		for _, right := range []float32{0, 1.5, 3} {
			is(t, "CakeWorth from "+show(wrong), show(impl.CakeWorth(c, 0, wrong, right)), noNumber)
			is(t, "CakeWorth to "+show(wrong), show(impl.CakeWorth(c, 0, right, wrong)), noNumber)
			is(t, "CakeMark from "+show(wrong), show(impl.CakeMark(c, 0, wrong, right)), noNumber)
		}
		is(t, "CakeWorth from and to "+show(wrong), show(impl.CakeWorth(c, 0, wrong, wrong)), noNumber)
		if isWorth := wrong >= 0 && wrong <= math.MaxFloat32; !isWorth {
			is(t, "CakeMark for "+show(wrong), show(impl.CakeMark(c, 0, 0, wrong)), noNumber)
			is(t, "CakeMark for "+show(wrong)+" at the end", show(impl.CakeMark(c, 0, 3, wrong)), noNumber)
		}
	}
	for _, wrong := range [][2]float32{{1, 0}, {1, num(0x3f7fffff)}, {3, 0}, {num(1), num(0x80000000)}, {num(1), 0}} {
		is(t, "CakeWorth of "+show(wrong[0], wrong[1]), show(impl.CakeWorth(c, 0, wrong[0], wrong[1])), noNumber)
	}
	for _, player := range wrongPlayers(2) {
		is(t, "CakeWorth to the player "+show(player), show(impl.CakeWorth(c, player, 0, 1)), noNumber)
		is(t, "CakeMark of the player "+show(player), show(impl.CakeMark(c, player, 0, 1)), noNumber)
	}
}
