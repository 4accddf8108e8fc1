package tests

import (
	"slices"
	"testing"

	"loop.example/g01365/impl"
)

// checkTurns compares the turns of a stable match, takes each one, and returns
// the matches behind them, which are stable.
func checkTurns(t *testing.T, w impl.Wishes, match []int64) [][]int64 {
	t.Helper()
	turns := turnsOfMatch(w, match)
	is(t, "TurnsOf of "+show(w, match), show(impl.TurnsOf(w, match)), show(turns, true))
	var behind [][]int64
	for _, turn := range turns {
		want := takenTurn(match, turn)
		is(t, "TakeTurn of "+show(w, match, turn), show(impl.TakeTurn(w, match, turn)), show(want, true))
		is(t, "whether it is stable", show(isMatchReference(w, want), isStableReference(w, want)), "true true")
		for i, list := range w.Left {
			// Who is in the turn gets a less dear one, and all others stay.
			isLess := holds(list, match[i], want[i])
			is(t, "who loses in "+show(w, match, turn), show(isLess), show(slices.Contains(turn, int64(i))))
		}
		behind = append(behind, want)
	}
	return behind
}

// TestTurnsLeadToAllStableMatches goes from what is asked for along all turns: it
// comes to each stable match, and at last to what the other side asks for.
func TestTurnsLeadToAllStableMatches(t *testing.T) {
	d := dice(231)
	list := append(toldWishes(someWishes()), smallWishes()...)
	for range 300 {
		list = append(list, d.wishes(5, 4))
	}
	for _, w := range list {
		first, _, _ := impl.AskMatch(w)
		reached := [][]int64{first}
		for at := 0; at < len(reached); at++ {
			for _, match := range checkTurns(t, w, reached[at]) {
				if !slices.ContainsFunc(reached, func(other []int64) bool { return slices.Equal(other, match) }) {
					reached = append(reached, match)
				}
			}
		}
		slices.SortFunc(reached, slices.Compare[[]int64])
		is(t, "what turns lead to in "+show(w), show(reached), show(stableReference(w)))
	}
}

// TestTurnsOfManyLeadToTheOtherSide takes the last turn again and again.
func TestTurnsOfManyLeadToTheOtherSide(t *testing.T) {
	d := dice(232)
	long := make([]int, 9)
	list := someWishes()
	for range 1500 {
		n := d.from(6, 8)
		list = append(list, d.wishes(n, n-1))
	}
	for _, w := range list {
		match := bestForLeft(w.Left, w.Right)
		for {
			for _, turn := range turnsOfMatch(w, match) {
				long[len(turn)]++
			}
			behind := checkTurns(t, w, match)
			if len(behind) == 0 {
				break
			}
			match = behind[len(behind)-1]
		}
		for j, i := range bestForLeft(w.Right, w.Left) {
			is(t, "who has the left one at last in "+show(w, match), show(rank(match, int64(j))), show(i))
		}
	}
	if long[0] > 0 || long[1] > 0 || slices.Min(long[2:5]) < 20 || long[8] == 0 {
		t.Errorf("turns of these lengths: %v", long)
	}
}

func TestTurnsAtTheEdges(t *testing.T) {
	// 0 and 1 turn, and so do 2 and 3.
	twice := impl.Wishes{
		Left:  [][]int64{{0, 1}, {1, 0}, {2, 3}, {3, 2}},
		Right: [][]int64{{1, 0}, {0, 1}, {3, 2}, {2, 3}},
	}
	for _, c := range []struct {
		w     impl.Wishes
		match []int64
		want  string
	}{
		{emptyWishes(1), []int64{-1}, "[] true"},
		{emptyWishes(8), copies[int64](-1, 8), "[] true"},
		{impl.Wishes{Left: [][]int64{{0}}, Right: [][]int64{{0}}}, []int64{0}, "[] true"},
		{twoPairs(), []int64{0, 1}, "[[0 1]] true"},
		{twoPairs(), []int64{1, 0}, "[] true"},
		{twice, []int64{0, 1, 2, 3}, "[[0 1] [2 3]] true"},
		{twice, []int64{1, 0, 2, 3}, "[[2 3]] true"},
		{twice, []int64{0, 1, 3, 2}, "[[0 1]] true"},
		{twice, []int64{1, 0, 3, 2}, "[] true"},
		{crosswise(3), []int64{0, 1, 2}, "[[0 1 2]] true"},
		{crosswise(8), numbersTo(8), "[[0 1 2 3 4 5 6 7]] true"},
		{crosswise(8), []int64{7, 0, 1, 2, 3, 4, 5, 6}, "[] true"},
		{alikeWishes(8), numbersTo(8), "[] true"},
		// A ring that goes down: 0 is followed by 2, 2 by 1, and 1 by 0.
		{impl.Wishes{Left: [][]int64{{0, 2}, {1, 0}, {2, 1}}, Right: [][]int64{{1, 0}, {2, 1}, {0, 2}}}, []int64{0, 1, 2}, "[[0 2 1]] true"},
		// 0 and 1 turn, to which 2 leads, who would have whom 0 has.
		{impl.Wishes{Left: [][]int64{{0, 1}, {1, 0}, {2, 0}}, Right: [][]int64{{1, 2, 0}, {0, 1}, {2}}}, []int64{0, 1, 2}, "[[0 1]] true"},
		// 0 would be taken by 2, whom nobody has, before 1: so that it never moves.
		{impl.Wishes{Left: [][]int64{{0, 2, 1}, {1, 0}, nil}, Right: [][]int64{{1, 0}, {0, 1}, {0}}}, []int64{0, 1, -1}, "[] true"},
		// 2 does not take 0, nor does it hold 0 dearer than whom it has.
		{impl.Wishes{Left: [][]int64{{0, 2, 1}, {1, 0}, nil}, Right: [][]int64{{1, 0}, {0, 1}, nil}}, []int64{0, 1, -1}, "[[0 1]] true"},
		{impl.Wishes{Left: [][]int64{{0, 2, 1}, {1, 0}, {2}}, Right: [][]int64{{1, 0}, {0, 1}, {2, 0}}}, []int64{0, 1, 2}, "[[0 1]] true"},
		// 2 holds 0 dearer than whom it has, who has nobody else.
		{impl.Wishes{Left: [][]int64{{0, 2, 1}, {1, 0}, {2}}, Right: [][]int64{{1, 0}, {0, 1}, {0, 2}}}, []int64{0, 1, 2}, "[] true"},
	} {
		is(t, "TurnsOf of "+show(c.w, c.match), show(impl.TurnsOf(c.w, c.match)), c.want)
		checkTurns(t, c.w, c.match)
	}
}

func TestOnlyTurnsThatAreToldAreTaken(t *testing.T) {
	for _, c := range []struct {
		w      impl.Wishes
		match  []int64
		wrongs [][]int64
	}{
		{twoPairs(), []int64{0, 1}, [][]int64{nil, {0}, {1}, {1, 0}, {0, 0}, {0, 1, 0}, {0, 1, 0, 1}, {0, 1, 2}, {0, 2}, {-1, 0}, {0, -1}, {0, 1 << 32}, make([]int64, 1000)}},
		{twoPairs(), []int64{1, 0}, [][]int64{nil, {0, 1}, {1, 0}, {0}, {}}},
		{crosswise(3), []int64{0, 1, 2}, [][]int64{nil, {0, 1}, {1, 2}, {0, 2, 1}, {1, 2, 0}, {2, 0, 1}, {0, 1, 2, 0}}},
		{emptyWishes(2), []int64{-1, -1}, [][]int64{nil, {0}, {0, 1}}},
	} {
		for _, turn := range c.wrongs {
			is(t, "TakeTurn of "+show(c.w, c.match, turn), show(impl.TakeTurn(c.w, c.match, turn)), "[] false")
		}
	}
	d := dice(233)
	for range 4000 {
		n := d.from(2, 8)
		w := d.wishes(n, n-1)
		match, turn := bestForLeft(w.Left, w.Right), d.order(n)[:d.from(0, n)]
		if !slices.ContainsFunc(turnsOfMatch(w, match), func(told []int64) bool { return slices.Equal(told, turn) }) {
			is(t, "TakeTurn of "+show(w, match, turn), show(impl.TakeTurn(w, match, turn)), "[] false")
		}
	}
}
