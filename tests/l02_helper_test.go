package tests

import (
	"math"
	"slices"

	"loop.example/g01365/impl"
)

// dilemma is the game of the document's example.
func dilemma() impl.Game {
	return impl.Game{Rows: 2, Columns: 2, A: []int64{3, 0, 5, 1}, B: []int64{3, 5, 0, 1}}
}

// pennies is the zero sum of the document's example.
func pennies() impl.Game {
	return impl.Game{Rows: 2, Columns: 2, A: []int64{1, -1, -1, 1}, B: []int64{-1, 1, 1, -1}}
}

// copyOf returns a game that shares no memory with g.
func copyOf(g impl.Game) impl.Game {
	return impl.Game{Rows: g.Rows, Columns: g.Columns, A: slices.Clone(g.A), B: slices.Clone(g.B)}
}

// equalGame returns a game in which all gains are equal.
func equalGame(rows, columns, gain int64) impl.Game {
	n := int(rows * columns)
	return impl.Game{Rows: rows, Columns: columns, A: copies(gain, n), B: copies(gain, n)}
}

// from returns an integer from least to most.
func (d *dice) from(least, most int64) int64 {
	return least + int64(d.next()>>1)%(most-least+1)
}

func (d *dice) integers(n, least, most int64) []int64 {
	list := make([]int64, n)
	for i := range list {
		list[i] = d.from(least, most)
	}
	return list
}

// game returns a game with gains from -most to most.
func (d *dice) game(rows, columns, most int64) impl.Game {
	n := rows * columns
	return impl.Game{Rows: rows, Columns: columns, A: d.integers(n, -most, most), B: d.integers(n, -most, most)}
}

// potentialGame returns a game that has a potential.
func (d *dice) potentialGame(rows, columns int64) impl.Game {
	g := impl.Game{Rows: rows, Columns: columns}
	inColumns, inRows := d.integers(columns, -500, 500), d.integers(rows, -500, 500)
	for row := range rows {
		for column := range columns {
			potential := d.from(-500, 500)
			g.A = append(g.A, potential+inColumns[column])
			g.B = append(g.B, potential+inRows[row])
		}
	}
	return g
}

// player returns a valid player with so many states.
func (d *dice) player(own, other, states int64) impl.Player {
	return impl.Player{Moves: d.integers(states, 0, own-1), Next: d.integers(states*other, 0, states-1)}
}

// chances returns n chances, now and then a zero with or without a sign.
func (d *dice) chances(n int64) []float32 {
	list := make([]float32, n)
	for i := range list {
		switch r := d.next(); r % 8 {
		case 0:
			list[i] = 0
		case 1:
			list[i] = num(0x80000000)
		default:
			list[i] = float32(r>>40) / 0x1p24
		}
	}
	return list
}

// someGames are games of all sizes, with equal gains, with many ties and with
// few, and with a potential.
func someGames() []impl.Game {
	list := []impl.Game{dilemma(), pennies()}
	d := dice(21)
	for rows := int64(1); rows <= impl.MaxSide; rows++ {
		for columns := int64(1); columns <= impl.MaxSide; columns++ {
			list = append(list, equalGame(rows, columns, 0), equalGame(rows, columns, impl.MaxGain), equalGame(rows, columns, -impl.MaxGain))
			for range 12 {
				list = append(list, d.game(rows, columns, 1), d.game(rows, columns, 4), d.game(rows, columns, impl.MaxGain), d.potentialGame(rows, columns))
			}
		}
	}
	return list
}

// smallGames are all games of two rows and two columns with gains -1, 0 and 1.
func smallGames() []impl.Game {
	var list []impl.Game
	for n := range 6561 {
		g := impl.Game{Rows: 2, Columns: 2}
		for range 4 {
			g.A = append(g.A, int64(n%3-1))
			g.B = append(g.B, int64(n/3%3-1))
			n /= 9
		}
		list = append(list, g)
	}
	return list
}

// wrongGames are not valid, for one reason each.
func wrongGames() []impl.Game {
	list := []impl.Game{
		{},
		{Rows: 1, Columns: 1},
		{Rows: 0, Columns: 2},
		{Rows: 2, Columns: 0},
		{Rows: -1, Columns: -1, A: []int64{0}, B: []int64{0}},
		{Rows: -2, Columns: -2, A: copies[int64](0, 4), B: copies[int64](0, 4)},
		{Rows: 7, Columns: 1, A: copies[int64](0, 7), B: copies[int64](0, 7)},
		{Rows: 1, Columns: 7, A: copies[int64](0, 7), B: copies[int64](0, 7)},
		{Rows: 7, Columns: 6, A: copies[int64](0, 42), B: copies[int64](0, 42)},
		{Rows: 6, Columns: 7, A: copies[int64](0, 42), B: copies[int64](0, 42)},
		{Rows: 1 << 32, Columns: 1 << 32}, // whose product is 0 in 64 bits
		{Rows: 1 << 62, Columns: 4},
		{Rows: math.MinInt64, Columns: 2},
		{Rows: math.MaxInt64, Columns: math.MaxInt64, A: []int64{0}, B: []int64{0}}, // whose product is 1
		{Rows: 2, Columns: 2, A: copies[int64](0, 4)},
		{Rows: 2, Columns: 2, B: copies[int64](0, 4)},
		{Rows: 2, Columns: 2, A: copies[int64](0, 5), B: copies[int64](0, 3)},
		{Rows: 2, Columns: 2, A: copies[int64](0, 3), B: copies[int64](0, 5)},
	}
	for _, g := range []impl.Game{dilemma(), pennies(), equalGame(2, 3, 1), equalGame(6, 6, 0)} {
		n := len(g.A)
		for _, change := range []func(*impl.Game){
			func(g *impl.Game) { g.A = g.A[:n-1] },
			func(g *impl.Game) { g.B = g.B[:n-1] },
			func(g *impl.Game) { g.A = append(g.A, 0) },
			func(g *impl.Game) { g.B = append(g.B, 0) },
			func(g *impl.Game) { g.A[0] = impl.MaxGain + 1 },
			func(g *impl.Game) { g.A[n-1] = -impl.MaxGain - 1 },
			func(g *impl.Game) { g.B[0] = -impl.MaxGain - 1 },
			func(g *impl.Game) { g.B[n-1] = impl.MaxGain + 1 },
			func(g *impl.Game) { g.A[n-1] = math.MaxInt64 },
			func(g *impl.Game) { g.B[n-1] = math.MinInt64 },
		} {
			wrong := copyOf(g)
			change(&wrong)
			list = append(list, wrong)
		}
	}
	return list
}
