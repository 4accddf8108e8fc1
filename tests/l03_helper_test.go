package tests

import (
	"math"
	"slices"

	"loop.example/g01365/impl"
)

// noWorths is what functions show that fail to return worths.
const noWorths = "{0 []} false"

// together is the example of the document: two players who are worth 6.
func together() impl.Worths {
	return impl.Worths{Players: 2, Worths: []int64{0, 0, 0, 6}}
}

// copyOfWorths returns worths that share no memory with w.
func copyOfWorths(w impl.Worths) impl.Worths {
	return impl.Worths{Players: w.Players, Worths: slices.Clone(w.Worths)}
}

// equalWorths are those of which all sets of somebody are worth the same.
func equalWorths(players, worth int64) impl.Worths {
	w := impl.Worths{Players: players, Worths: copies(worth, 1<<players)}
	w.Worths[0] = 0
	return w
}

// worths returns worths from least to most.
func (d *dice) worths(players, least, most int64) impl.Worths {
	w := impl.Worths{Players: players, Worths: d.integers(1<<players, least, most)}
	w.Worths[0] = 0
	return w
}

// worthsOfDividends returns worths whose dividends for sets of several players
// are from least to most, so that they are convex if least is 0.
func (d *dice) worthsOfDividends(players, least, most int64) impl.Worths {
	dividends := d.integers(1<<players, least, most)
	dividends[0] = 0
	for i := range players {
		dividends[1<<i] = d.from(-5, 5)
	}
	return impl.Worths{Players: players, Worths: partSums(players, dividends)}
}

// order returns an order of all players.
func (d *dice) order(players int64) []int64 {
	order := numbersTo(players)
	for i := range order {
		other := d.from(int64(i), players-1)
		order[i], order[other] = order[other], order[i]
	}
	return order
}

// votes returns votes, most of which have sets that win, though larger ones lose.
func (d *dice) votes(players int64) impl.Worths {
	w := d.worths(players, 0, 1)
	w.Worths[len(w.Worths)-1] = 1
	return w
}

// wayCosts returns costs of ways from 0 to most, equal both ways.
func (d *dice) wayCosts(players, most int64) []int64 {
	places := players + 1
	costs := make([]int64, places*places)
	for from := range places {
		for to := range from {
			cost := d.from(0, most)
			costs[from*places+to], costs[to*places+from] = cost, cost
		}
	}
	return costs
}

// someWorths are worths of all numbers of players: equal ones, random ones with
// many ties and with few, convex ones, those with players who bring nothing or
// the same, and votes.
func someWorths() []impl.Worths {
	list := []impl.Worths{together()}
	d := dice(61)
	for players := int64(1); players <= impl.MaxMembers; players++ {
		list = append(list, equalWorths(players, 0), equalWorths(players, 1), equalWorths(players, -1), equalWorths(players, impl.MaxSetWorth), equalWorths(players, -impl.MaxSetWorth))
		for range 6 {
			list = append(list,
				d.worths(players, -1, 1), d.worths(players, 0, 3), d.worths(players, -9, 9),
				d.worths(players, -impl.MaxSetWorth, impl.MaxSetWorth),
				d.worthsOfDividends(players, 0, 0), d.worthsOfDividends(players, 0, 3), d.worthsOfDividends(players, -2, 2),
				d.votes(players), withNobody(d.worths(players, -3, 9), d.from(0, players-1)),
				withTwins(d.worths(players, -3, 9), 0, players-1))
		}
	}
	return list
}

// withNobody changes worths so that a player brings nothing.
func withNobody(w impl.Worths, player int64) impl.Worths {
	for _, team := range teamsOf(w.Players) {
		if slices.Contains(team, player) {
			w.Worths[numberOf(team)] = w.Worths[numberOf(less1(team, player))]
		}
	}
	return w
}

// withTwins changes worths so that two players bring the same.
func withTwins(w impl.Worths, i, k int64) impl.Worths {
	for _, team := range teamsOf(w.Players) {
		if i != k && slices.Contains(team, i) && !slices.Contains(team, k) {
			w.Worths[numberOf(union(less1(team, i), []int64{k}))] = w.Worths[numberOf(team)]
		}
	}
	return w
}

// smallWorths are all worths of two players from -2 to 2, and all of three
// players from -1 to 1.
func smallWorths() []impl.Worths {
	var list []impl.Worths
	for n := range int64(125) {
		list = append(list, impl.Worths{Players: 2, Worths: []int64{0, n%5 - 2, n/5%5 - 2, n/25 - 2}})
	}
	for n := range int64(2187) {
		w := impl.Worths{Players: 3, Worths: []int64{0}}
		for range 7 {
			w.Worths = append(w.Worths, n%3-1)
			n /= 3
		}
		list = append(list, w)
	}
	return list
}

// wrongWorths are not valid, for one reason each.
func wrongWorths() []impl.Worths {
	list := []impl.Worths{
		{},
		{Players: 0, Worths: []int64{0}},
		{Players: 1},
		{Players: -1, Worths: []int64{0, 0}},
		{Players: -6, Worths: make([]int64, 64)},
		{Players: 7, Worths: make([]int64, 128)},
		{Players: 8, Worths: make([]int64, 256)},
		{Players: 63, Worths: nil},
		{Players: 64, Worths: nil}, // 2^64 is 0 in 64 bits
		{Players: 64, Worths: []int64{0}},
		{Players: 65, Worths: []int64{0, 0}},
		{Players: math.MaxInt64, Worths: []int64{0, 0}},
		{Players: math.MinInt64, Worths: []int64{0, 0}},
		{Players: 2, Worths: make([]int64, 8)},
		{Players: 3, Worths: make([]int64, 4)},
	}
	for _, w := range []impl.Worths{equalWorths(1, 0), together(), equalWorths(3, 5), equalWorths(6, -7)} {
		n := len(w.Worths)
		for _, change := range []func(*impl.Worths){
			func(w *impl.Worths) { w.Worths = w.Worths[:n-1] },
			func(w *impl.Worths) { w.Worths = w.Worths[1:] },
			func(w *impl.Worths) { w.Worths = append(w.Worths, 0) },
			func(w *impl.Worths) { w.Worths[0] = 1 },
			func(w *impl.Worths) { w.Worths[0] = -1 },
			func(w *impl.Worths) { w.Worths[0] = math.MinInt64 },
			func(w *impl.Worths) { w.Worths[1] = impl.MaxSetWorth + 1 },
			func(w *impl.Worths) { w.Worths[1] = -impl.MaxSetWorth - 1 },
			func(w *impl.Worths) { w.Worths[n-1] = impl.MaxSetWorth + 1 },
			func(w *impl.Worths) { w.Worths[n-1] = -impl.MaxSetWorth - 1 },
			func(w *impl.Worths) { w.Worths[n-1] = math.MaxInt64 },
			func(w *impl.Worths) { w.Worths[n-1] = math.MinInt64 },
		} {
			wrong := copyOfWorths(w)
			change(&wrong)
			list = append(list, wrong)
		}
	}
	return list
}

// wrongPlayers are not players of n.
func wrongPlayers(n int64) []int64 {
	return []int64{-1, n, n + 1, n + 64, 1 << 32, math.MaxInt64, math.MinInt64}
}

// farNumbers are far beyond all limits.
func farNumbers() []int64 {
	return []int64{1 << 32, -1 << 32, math.MaxInt64, math.MinInt64, math.MinInt64 + 1}
}
