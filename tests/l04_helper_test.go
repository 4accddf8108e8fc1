package tests

import (
	"math"
	"slices"

	"loop.example/g01365/impl"
)

// twoThings are those of the document's example, of which players take turns.
func twoThings() impl.Values {
	return impl.Values{Players: 2, Things: 2, Worths: []int64{5, 3, 5, 4}}
}

// twoRooms are those of the document's example.
func twoRooms() impl.Values {
	return impl.Values{Players: 2, Things: 2, Worths: []int64{30, 10, 20, 20}}
}

// twoPieces are the cake of the document's example.
func twoPieces() impl.Cake {
	return impl.Cake{Players: 2, Pieces: 2, Worths: []int64{1, 1, 3, 1}}
}

// things makes values of rows, one for each player.
func things(rows ...[]int64) impl.Values {
	return impl.Values{Players: int64(len(rows)), Things: int64(len(rows[0])), Worths: slices.Concat(rows...)}
}

// pieces makes a cake of rows, one for each player.
func pieces(rows ...[]int64) impl.Cake {
	return impl.Cake{Players: int64(len(rows)), Pieces: int64(len(rows[0])), Worths: slices.Concat(rows...)}
}

// equalThings are all worth the same to all.
func equalThings(players, n, worth int64) impl.Values {
	return impl.Values{Players: players, Things: n, Worths: copies(worth, int(players*n))}
}

// equalPieces are all worth the same to all.
func equalPieces(players, n, worth int64) impl.Cake {
	return impl.Cake{Players: players, Pieces: n, Worths: copies(worth, int(players*n))}
}

// values returns worths from 0 to most.
func (d *dice) values(players, things, most int64) impl.Values {
	return impl.Values{Players: players, Things: things, Worths: d.integers(players*things, 0, most)}
}

// alike returns values for which all players agree.
func (d *dice) alike(players, things, most int64) impl.Values {
	return impl.Values{Players: players, Things: things, Worths: slices.Repeat(d.integers(things, 0, most), int(players))}
}

// thinValues returns values of which most are 0.
func (d *dice) thinValues(players, things int64) impl.Values {
	v := d.values(players, things, 9)
	for i := range v.Worths {
		if d.from(0, 3) > 0 {
			v.Worths[i] = 0
		}
	}
	return v
}

// cake returns a cake, some pieces of which are dry to some players.
func (d *dice) cake(players, n, most int64) impl.Cake {
	c := impl.Cake{Players: players, Pieces: n, Worths: d.integers(players*n, 0, most)}
	for i := range c.Worths {
		if d.from(0, 3) == 0 {
			c.Worths[i] = 0
		}
	}
	for i := range players {
		c.Worths[i*n+d.from(0, n-1)] = d.from(1, most)
	}
	return c
}

// place returns a place of a cake with so many pieces, now and then its
// beginning with a sign, an edge of pieces, or one beside it.
func (d *dice) place(n int64) float32 {
	edge := float32(d.from(0, n))
	switch d.from(0, 7) {
	case 0:
		return num(0x80000000)
	case 1, 2:
		return edge
	case 3:
		return math.Nextafter32(edge, 0)
	case 4:
		return min(math.Nextafter32(edge, math.MaxFloat32), float32(n))
	}
	return float32(float64(d.next()>>11) / (1 << 53) * float64(n))
}

// cuts returns places where parts of a cake end.
func (d *dice) cuts(c impl.Cake) []float32 {
	cuts := []float32{float32(c.Pieces)}
	for range c.Players - 1 {
		cuts = append(cuts, d.place(c.Pieces))
	}
	slices.Sort(cuts)
	return cuts
}

// someValues are values of all numbers of players and things: equal ones, those
// that are worth nothing to some or to all, and those with many ties and few.
func someValues() []impl.Values {
	list := []impl.Values{twoThings(), twoRooms()}
	d := dice(101)
	for players := int64(1); players <= impl.MaxHeirs; players++ {
		for n := int64(1); n <= impl.MaxThings; n++ {
			list = append(list, equalThings(players, n, 0), equalThings(players, n, 1), equalThings(players, n, impl.MaxPrize))
			for range 2 {
				list = append(list, d.values(players, n, 1), d.values(players, n, 4), d.values(players, n, 30), d.values(players, n, impl.MaxPrize),
					d.alike(players, n, 5), d.alike(players, n, 100), d.thinValues(players, n))
			}
		}
	}
	return list
}

// fewOwnings leaves those values of which the best owners can be found.
func fewOwnings(list []impl.Values) []impl.Values {
	return slices.DeleteFunc(slices.Clone(list), func(v impl.Values) bool {
		return numberOfOwnings(v) > 4096
	})
}

// smallValues are all values of two players and three things from 0 to 2.
func smallValues() []impl.Values {
	var list []impl.Values
	for n := range int64(729) {
		v := impl.Values{Players: 2, Things: 3}
		for range 6 {
			v.Worths = append(v.Worths, n%3)
			n /= 3
		}
		list = append(list, v)
	}
	return list
}

// someCakes are cakes of all numbers of players and many of pieces.
func someCakes() []impl.Cake {
	list := []impl.Cake{twoPieces()}
	d := dice(102)
	for players := int64(1); players <= impl.MaxHeirs; players++ {
		for _, n := range []int64{1, 2, 3, 5, 8, 15, 16} {
			list = append(list, equalPieces(players, n, 1), equalPieces(players, n, 7), equalPieces(players, n, impl.MaxPrize))
			for range 4 {
				list = append(list, d.cake(players, n, 1), d.cake(players, n, 3), d.cake(players, n, 40), d.cake(players, n, impl.MaxPrize))
			}
		}
	}
	return list
}

// wrongSizes are numbers of players and of things or pieces, and how many worths
// come with them, for which nothing is valid that has at most so many of each.
func wrongSizes(most int64) [][3]int64 {
	return [][3]int64{
		{0, 0, 0}, {0, 1, 0}, {1, 0, 0}, {0, 2, 2}, {2, 0, 2},
		{-1, -1, 1}, {-2, -2, 4}, {-1, 1, 1}, {1, -1, 1},
		{7, 1, 7}, {7, 2, 14}, {1, most + 1, most + 1}, {2, most + 1, 2 * (most + 1)}, {6, most + 1, 6 * (most + 1)},
		{2, 2, 3}, {2, 2, 5}, {1, 1, 0}, {1, 1, 2}, {6, most, 6*most - 1}, {6, most, 6*most + 1}, {3, 2, 9}, {2, 3, 4},
		{1 << 32, 1 << 32, 0}, // whose product is 0 in 64 bits
		{1 << 62, 4, 0}, {4, 1 << 62, 0},
		{math.MaxInt64, math.MaxInt64, 1}, // whose product is 1
		{math.MinInt64, 2, 0}, {2, math.MinInt64, 0}, {math.MinInt64, math.MinInt64, 0},
		{math.MaxInt64, 1, 1}, {1, math.MaxInt64, 1},
	}
}

// wrongPrizes are worths that nothing has.
func wrongPrizes() []int64 {
	return append(farNumbers(), -1, impl.MaxPrize+1)
}

// wrongValues are not valid, for one reason each.
func wrongValues() []impl.Values {
	list := []impl.Values{{}}
	for _, size := range wrongSizes(impl.MaxThings) {
		list = append(list, impl.Values{Players: size[0], Things: size[1], Worths: make([]int64, size[2])})
	}
	for _, v := range []impl.Values{equalThings(1, 1, 0), twoThings(), twoRooms(), equalThings(3, 3, 4), equalThings(6, 8, 1000)} {
		for _, wrong := range wrongPrizes() {
			for _, at := range []int{0, len(v.Worths) / 2, len(v.Worths) - 1} {
				worths := slices.Clone(v.Worths)
				worths[at] = wrong
				list = append(list, impl.Values{Players: v.Players, Things: v.Things, Worths: worths})
			}
		}
	}
	return list
}

// wrongCakes are not valid, for one reason each.
func wrongCakes() []impl.Cake {
	list := []impl.Cake{{}}
	for _, size := range wrongSizes(impl.MaxPieces) {
		list = append(list, impl.Cake{Players: size[0], Pieces: size[1], Worths: copies[int64](1, int(size[2]))})
	}
	for _, c := range []impl.Cake{equalPieces(1, 1, 1), twoPieces(), equalPieces(3, 4, 5), equalPieces(6, 16, 1000)} {
		for _, wrong := range wrongPrizes() {
			for _, at := range []int{0, len(c.Worths) / 2, len(c.Worths) - 1} {
				worths := slices.Clone(c.Worths)
				worths[at] = wrong
				list = append(list, impl.Cake{Players: c.Players, Pieces: c.Pieces, Worths: worths})
			}
		}
		for i := range c.Players {
			// All is worth nothing to one player.
			worths := slices.Clone(c.Worths)
			clear(worths[i*c.Pieces : (i+1)*c.Pieces])
			list = append(list, impl.Cake{Players: c.Players, Pieces: c.Pieces, Worths: worths})
		}
	}
	return list
}

// wrongOwners are no owners of so many things of players.
func wrongOwners(players, things int64) [][]int64 {
	list := [][]int64{nil, make([]int64, things-1), make([]int64, things+1), make([]int64, 1000)}
	for _, player := range wrongPlayers(players) {
		for _, at := range []int64{0, things / 2, things - 1} {
			owners := make([]int64, things)
			owners[at] = player
			list = append(list, owners)
		}
	}
	return list
}

// wrongPlaces are none of any cake.
func wrongPlaces() []float32 {
	infinite := float32(math.Inf(1))
	return []float32{num(0x7fc00000), num(0xffc00001), num(0x7f800001), infinite, -infinite, -1, num(0x80000001), -math.MaxFloat32, math.MaxFloat32, 17, 1e9}
}
