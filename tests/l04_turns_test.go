package tests

import (
	"slices"
	"testing"

	"loop.example/g01365/impl"
)

func TestTakeTurnsTakesWhatIsWorthMost(t *testing.T) {
	d := dice(121)
	for _, v := range someValues() {
		for range 4 {
			order := d.integers(d.from(1, 8), 0, v.Players-1)
			is(t, "TakeTurns of "+show(v, order), show(impl.TakeTurns(v, order)), show(turnsReference(v, order), true))
		}
	}
	for _, v := range smallValues() {
		for _, order := range [][]int64{{0, 1}, {1, 0}, {0}, {1, 1, 0}, {0, 1, 1}} {
			is(t, "TakeTurns of "+show(v, order), show(impl.TakeTurns(v, order)), show(turnsReference(v, order), true))
		}
	}
}

func TestTakeTurnsAtTheEdges(t *testing.T) {
	three := things([]int64{6, 4, 2}, []int64{3, 3, 3})
	for _, c := range []struct {
		v     impl.Values
		order []int64
		want  string
	}{
		{twoThings(), []int64{0, 1}, "[0 1] true"},
		{twoThings(), []int64{1, 0}, "[1 0] true"},
		{twoThings(), []int64{1}, "[1 1] true"}, // the player 0 has no turn
		{three, []int64{0, 1}, "[0 1 0] true"},
		{three, []int64{1, 0}, "[1 0 1] true"}, // the first one of equal things
		{three, []int64{1, 0, 0}, "[1 0 0] true"},
		{three, []int64{1, 1, 0}, "[1 1 0] true"},
		{three, []int64{0, 1, 1, 0, 0, 0, 0, 0}, "[0 1 1] true"}, // more turns than things
		{equalThings(1, 1, 0), []int64{0}, "[0] true"},
		{equalThings(2, 5, 0), []int64{1, 0}, "[1 0 1 0 1] true"}, // worth nothing to anybody
		{equalThings(6, 8, 1000), []int64{5, 4, 3, 2, 1, 0}, "[5 4 3 2 1 0 5 4] true"},
		{equalThings(2, 8, 1), []int64{0, 1, 1, 0, 1, 0, 0, 1}, "[0 1 1 0 1 0 0 1] true"},
		{things([]int64{0, 0, 9, 0}, []int64{0, 0, 9, 1}), []int64{1, 0}, "[0 0 1 1] true"},
		{twoThings(), nil, "[] false"},
		{twoThings(), copies[int64](0, 8), "[0 0] true"},
		{twoThings(), copies[int64](0, 9), "[] false"},
		{twoThings(), copies[int64](0, 1000), "[] false"},
		{equalThings(6, 8, 1), copies[int64](5, 9), "[] false"},
	} {
		is(t, "TakeTurns of "+show(c.v, c.order), show(impl.TakeTurns(c.v, c.order)), c.want)
	}
	for _, wrong := range wrongPlayers(2) {
		for at := range 4 {
			// The last turns of these do not even come.
			order := make([]int64, 4)
			order[at] = wrong
			is(t, "TakeTurns by "+show(order), show(impl.TakeTurns(twoThings(), order)), "[] false")
		}
	}
}

// TestTurnsInRoundsAreFreeUpToOne has orders in which each player has one turn.
func TestTurnsInRoundsAreFreeUpToOne(t *testing.T) {
	d := dice(122)
	for _, v := range append(someValues(), smallValues()...) {
		for range 3 {
			order := d.order(v.Players)
			owners, _ := impl.TakeTurns(v, order)
			is(t, "IsFreeUpToOne of TakeTurns of "+show(v, order), show(impl.IsFreeUpToOne(v, owners)), "true true")
			first := order[0]
			for j := range v.Players {
				// Who begins envies nobody.
				is(t, "EnvyTable of TakeTurns of "+show(v, order), show(envyReference(v, owners)[first*v.Players+j] <= 0), "true")
			}
		}
	}
}

func checkRounds(t *testing.T, v impl.Values) int {
	t.Helper()
	owners, moves := roundsReference(v)
	is(t, "EnvyRounds of "+show(v), show(impl.EnvyRounds(v)), show(owners, true))
	is(t, "IsFreeUpToOne of EnvyRounds of "+show(v), show(impl.IsFreeUpToOne(v, owners)), "true true")
	return moves
}

func TestEnvyRoundsAreFreeUpToOne(t *testing.T) {
	d := dice(123)
	moved := make([]int, 7)
	for _, v := range append(someValues(), smallValues()...) {
		if checkRounds(t, v) > 0 {
			moved[v.Players]++
		}
	}
	for range 20000 {
		v := d.values(d.from(2, 6), 8, d.from(5, 1000))
		if checkRounds(t, v) > 0 {
			moved[v.Players]++
		}
	}
	for players, count := range moved {
		if players >= 2 && count < 100 {
			t.Errorf("of %d players, parts are moved along in %d values alone", players, count)
		}
	}
}

// TestEnvyRoundsMoveParts has values for which parts are moved along rounds of
// two, of three and of more players, and for which they are moved twice.
func TestEnvyRoundsMoveParts(t *testing.T) {
	for _, c := range []struct {
		v     impl.Values
		moves int
		want  string
	}{
		{things([]int64{6, 4, 2}, []int64{3, 3, 3}), 0, "[0 1 0] true"},
		{twoThings(), 0, "[0 1] true"},
		{equalThings(1, 8, 3), 0, "[0 0 0 0 0 0 0 0] true"},
		{equalThings(4, 3, 0), 0, "[0 0 0] true"}, // nobody envies who has nothing of worth
		{equalThings(3, 7, 2), 0, "[0 1 2 0 1 2 0] true"},
		{equalThings(6, 8, 1000), 0, "[0 1 2 3 4 5 0 1] true"},
		// The player 0 would have the second thing, and 1 the first one.
		{things([]int64{1, 2, 1}, []int64{2, 1, 1}), 1, "[1 0 0] true"},
		{things([]int64{1, 2, 1, 0}, []int64{2, 1, 1, 5}), 1, "[1 0 0 0] true"},
		// A round of three: 2 envies 0, 1 envies 2, and 0 envies 1.
		{things([]int64{1, 2, 0, 0}, []int64{0, 1, 2, 0}, []int64{2, 0, 1, 0}), 1, "[2 0 1 0] true"},
		// One of 1 and 2, who envy one another; 1 envies 0, too, who envies nobody.
		{things([]int64{5, 1, 1, 0}, []int64{3, 1, 2, 0}, []int64{0, 2, 1, 0}), 1, "[0 2 1 1] true"},
		// Twice and more often, the second time before the same thing or not.
		{things([]int64{0, 1, 2, 0}, []int64{3, 2, 1, 1}, []int64{4, 3, 1, 3}), 2, "[1 2 0 0] true"},
		{things([]int64{3, 4, 0, 4, 1}, []int64{3, 2, 4, 1, 3}), 2, "[0 1 1 0 0] true"},
		{things([]int64{1, 2, 3, 1, 1}, []int64{2, 0, 4, 3, 4}, []int64{4, 3, 1, 0, 4}), 3, "[2 1 0 1 1] true"},
	} {
		is(t, "EnvyRounds of "+show(c.v), show(impl.EnvyRounds(c.v)), c.want)
		is(t, "moves of "+show(c.v), show(int64(checkRounds(t, c.v))), show(int64(c.moves)))
	}
}

// TestEnvyRoundsNeverTakeWorthAway lets no player have less by one thing more.
func TestEnvyRoundsNeverTakeWorthAway(t *testing.T) {
	d := dice(124)
	for range 2000 {
		v := d.values(d.from(1, 6), 8, 30)
		before := make([]int64, v.Players)
		for n := int64(1); n <= v.Things; n++ {
			var rows [][]int64
			for i := range v.Players {
				rows = append(rows, rowOf(v, i)[:n])
			}
			part := things(rows...)
			owners, ok := impl.EnvyRounds(part)
			after := ownReference(part, owners)
			for i := range after {
				if !ok || after[i] < before[i] {
					t.Fatalf("EnvyRounds of %s: the player %d has less than before", show(part), i)
				}
			}
			before = slices.Clone(after)
		}
	}
}
