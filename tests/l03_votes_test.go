package tests

import (
	"slices"
	"testing"

	"loop.example/g01365/impl"
)

func TestVotesAreWonByQuota(t *testing.T) {
	d := dice(81)
	for range 1500 {
		weights := d.integers(d.from(1, 6), 0, d.from(0, 5))
		sum := int64(0)
		for _, weight := range weights {
			sum += weight
		}
		quota := d.from(-1, sum+2)
		want := noWorths
		if quota >= 1 && quota <= sum {
			want = show(impl.Worths{Players: int64(len(weights)), Worths: votesReference(quota, weights)}, true)
		}
		is(t, "VoteWorths of "+show(quota, weights), show(impl.VoteWorths(quota, weights)), want)
	}
}

func TestVoteWorthsHasLimits(t *testing.T) {
	for _, c := range []struct {
		quota   int64
		weights []int64
		want    string
	}{
		{3, []int64{2, 1, 1}, "{3 [0 0 0 1 0 1 0 1]} true"},
		{4, []int64{2, 1, 1}, "{3 [0 0 0 0 0 0 0 1]} true"}, // the sum of all
		{5, []int64{2, 1, 1}, noWorths},
		{1, []int64{2, 1, 1}, "{3 [0 1 1 1 1 1 1 1]} true"},
		{0, []int64{2, 1, 1}, noWorths},
		{-1, []int64{2, 1, 1}, noWorths},
		{1, []int64{1}, "{1 [0 1]} true"},
		{2, []int64{1}, noWorths},
		{1, []int64{0}, noWorths},
		{0, []int64{0}, noWorths},
		{1, []int64{0, 1}, "{2 [0 0 1 1]} true"},
		{1000, []int64{1000}, "{1 [0 1]} true"},
		{1, []int64{1001}, noWorths},
		{1001, []int64{1001}, noWorths},
		{1, []int64{1, 1001}, noWorths},
		{1, []int64{-1, 5}, noWorths},
		{1, []int64{5, -1}, noWorths},
		{6000, copies[int64](1000, 6), show(impl.Worths{Players: 6, Worths: votesReference(6000, copies[int64](1000, 6))}, true)},
		{6001, copies[int64](1000, 6), noWorths},
		{1, copies[int64](1, 7), noWorths},
		{7, copies[int64](1, 7), noWorths},
		{1, copies[int64](1, 1000), noWorths},
		{1, nil, noWorths},
		{0, nil, noWorths},
	} {
		is(t, "VoteWorths of "+show(c.quota, c.weights), show(impl.VoteWorths(c.quota, c.weights)), c.want)
	}
	for _, far := range farNumbers() {
		is(t, "VoteWorths of the quota "+show(far), show(impl.VoteWorths(far, []int64{1, 1})), noWorths)
		is(t, "VoteWorths of the weight "+show(far), show(impl.VoteWorths(1, []int64{1, far})), noWorths)
		is(t, "VoteWorths of two weights "+show(far), show(impl.VoteWorths(1, []int64{far, far, 1})), noWorths)
	}
}

// areVotes reports whether worths are those of votes.
func areVotes(w impl.Worths) bool {
	for _, worth := range w.Worths {
		if worth != 0 && worth != 1 {
			return false
		}
	}
	return w.Worths[len(w.Worths)-1] == 1
}

func checkVotes(t *testing.T, w impl.Worths) {
	t.Helper()
	winners, veto := "[] false", "[] false"
	if areVotes(w) {
		winners, veto = show(leastWinnersReference(w), true), show(vetoReference(w), true)
	}
	is(t, "LeastWinners of "+show(w), show(impl.LeastWinners(w)), winners)
	is(t, "VetoOf "+show(w), show(impl.VetoOf(w)), veto)
}

func TestLeastWinnersAndVeto(t *testing.T) {
	for _, w := range append(someWorths(), smallWorths()...) {
		checkVotes(t, w)
	}
	for n := range int64(128) {
		// All votes of three players, those that win less with more players, too.
		w := impl.Worths{Players: 3, Worths: []int64{0}}
		for set := range 7 {
			w.Worths = append(w.Worths, n>>set%2)
		}
		checkVotes(t, w)
	}
	d := dice(82)
	for range 300 {
		weights := d.integers(d.from(1, 6), 1, 5)
		w, ok := impl.VoteWorths(d.from(1, int64(len(weights))), weights)
		if !ok {
			t.Fatalf("VoteWorths of %v fails", weights)
		}
		checkVotes(t, w)
	}
}

func TestLeastWinnersAndVetoAtTheEdges(t *testing.T) {
	for _, c := range []struct {
		w             impl.Worths
		winners, veto string
	}{
		{equalWorths(1, 1), "[1] true", "[0] true"},
		{equalWorths(3, 1), "[1 2 4] true", "[] true"},
		{impl.Worths{Players: 2, Worths: []int64{0, 0, 0, 1}}, "[3] true", "[0 1] true"},
		{impl.Worths{Players: 2, Worths: []int64{0, 1, 0, 1}}, "[1] true", "[0] true"},
		{impl.Worths{Players: 2, Worths: []int64{0, 0, 1, 1}}, "[2] true", "[1] true"},
		// One alone wins, two lose, and all win, of whom no two do.
		{impl.Worths{Players: 3, Worths: []int64{0, 1, 0, 0, 0, 0, 0, 1}}, "[1 7] true", "[0] true"},
		{impl.Worths{Players: 3, Worths: []int64{0, 0, 0, 1, 0, 0, 0, 1}}, "[3] true", "[0 1] true"},
		{equalWorths(1, 0), "[] false", "[] false"}, // the whole loses
		{equalWorths(1, -1), "[] false", "[] false"},
		{equalWorths(1, 2), "[] false", "[] false"},
		{together(), "[] false", "[] false"},
		{impl.Worths{Players: 2, Worths: []int64{0, 1, 1, 0}}, "[] false", "[] false"},
		{impl.Worths{Players: 2, Worths: []int64{0, 2, 0, 1}}, "[] false", "[] false"},
		{impl.Worths{Players: 2, Worths: []int64{0, 0, -1, 1}}, "[] false", "[] false"},
	} {
		is(t, "LeastWinners of "+show(c.w), show(impl.LeastWinners(c.w)), c.winners)
		is(t, "VetoOf "+show(c.w), show(impl.VetoOf(c.w)), c.veto)
	}
}

// TestVetoIsNeededByLeastWinners has those players alone that all of these have.
func TestVetoIsNeededByLeastWinners(t *testing.T) {
	d := dice(83)
	for range 300 {
		weights := d.integers(d.from(1, 6), 1, 9)
		w, _ := impl.VoteWorths(d.from(1, 9), weights)
		winners, ok := impl.LeastWinners(w)
		if !ok {
			continue
		}
		inAll := numbersTo(w.Players)
		for _, winner := range winners {
			inAll = common(inAll, teamsOf(w.Players)[winner])
		}
		is(t, "VetoOf "+show(w), show(impl.VetoOf(w)), show(inAll, true))
	}
}

func TestRunwaysAreWorthTheirGreatestCost(t *testing.T) {
	d := dice(84)
	for range 500 {
		costs := d.integers(d.from(1, 6), 0, d.from(0, 10000))
		want := show(impl.Worths{Players: int64(len(costs)), Worths: runwayReference(costs)}, true)
		is(t, "RunwayWorths of "+show(costs), show(impl.RunwayWorths(costs)), want)
	}
	for _, c := range []struct {
		costs []int64
		want  string
	}{
		{[]int64{2, 5}, "{2 [0 2 5 5]} true"},
		{[]int64{5, 2}, "{2 [0 5 2 5]} true"},
		{[]int64{0}, "{1 [0 0]} true"},
		{[]int64{0, 0, 0}, show(equalWorths(3, 0), true)},
		{[]int64{10000}, "{1 [0 10000]} true"},
		{[]int64{10001}, noWorths},
		{[]int64{-1}, noWorths},
		{[]int64{3, -1}, noWorths},
		{[]int64{-1, 3}, noWorths},
		{[]int64{10001, 3}, noWorths},
		{copies[int64](10000, 6), show(equalWorths(6, 10000), true)},
		{copies[int64](1, 7), noWorths},
		{copies[int64](1, 1000), noWorths},
		{nil, noWorths},
	} {
		is(t, "RunwayWorths of "+show(c.costs), show(impl.RunwayWorths(c.costs)), c.want)
	}
	for _, far := range farNumbers() {
		is(t, "RunwayWorths of "+show(far), show(impl.RunwayWorths([]int64{1, far})), noWorths)
	}
}

// TestRunwaysAreSharedStretchByStretch has, of each stretch, an equal part for
// all who need it.
func TestRunwaysAreSharedStretchByStretch(t *testing.T) {
	d := dice(85)
	for range 200 {
		costs := d.integers(d.from(1, 6), 0, 40)
		w, _ := impl.RunwayWorths(costs)
		want := make([]int64, len(costs))
		for stretch := range int64(40) {
			var users []int
			for i, cost := range costs {
				if cost > stretch {
					users = append(users, i)
				}
			}
			for _, i := range users {
				want[i] += factorial(len(costs)) / int64(len(users))
			}
		}
		is(t, "SharesOf runways of "+show(costs), show(impl.SharesOf(w)), show(want, factorial(len(costs)), true))
	}
}

// checkTrees compares worths and shares, and looks whether shares make the whole
// and ask of no set more than its own tree costs.
func checkTrees(t *testing.T, players int64, costs []int64) {
	t.Helper()
	what := " of " + show(players, costs)
	w := impl.Worths{Players: players, Worths: treeReference(players, costs)}
	pays := treeSharesReference(players, costs)
	is(t, "TreeWorths"+what, show(impl.TreeWorths(players, costs)), show(w, true))
	is(t, "TreeShares"+what, show(impl.TreeShares(players, costs)), show(pays, true))
	owed := copyOfWorths(w)
	for set := range owed.Worths {
		owed.Worths[set] *= -1
	}
	for i := range pays {
		pays[i] *= -1
	}
	is(t, "InCore of TreeShares"+what, show(impl.InCore(owed, pays, 1)), "true true")
}

func TestTreesAreTheCheapestOnes(t *testing.T) {
	d := dice(86)
	for players := int64(1); players <= 6; players++ {
		for _, most := range []int64{0, 1, 2, 5, 30, 1000} {
			for range 40 {
				checkTrees(t, players, d.wayCosts(players, most))
			}
		}
	}
}

func TestTreesOfWaysThatCostTheSame(t *testing.T) {
	for _, c := range []struct {
		players      int64
		costs        []int64
		worths, pays string
	}{
		{1, []int64{0, 7, 7, 0}, "{1 [0 7]} true", "[7] true"},
		{1, []int64{0, 0, 0, 0}, "{1 [0 0]} true", "[0] true"},
		{1, []int64{0, 1000, 1000, 0}, "{1 [0 1000]} true", "[1000] true"},
		{2, []int64{0, 3, 4, 3, 0, 1, 4, 1, 0}, "{2 [0 3 4 4]} true", "[3 1] true"},
		// Both are as near to the source; the first one is joined first, and the
		// second one by the way between them.
		{2, []int64{0, 4, 4, 4, 0, 1, 4, 1, 0}, "{2 [0 4 4 5]} true", "[4 1] true"},
		{2, []int64{0, 4, 4, 4, 0, 4, 4, 4, 0}, "{2 [0 4 4 8]} true", "[4 4] true"},
		{2, []int64{0, 5, 4, 5, 0, 1, 4, 1, 0}, "{2 [0 5 4 5]} true", "[1 4] true"},
		// Behind the player 1, the way from the source to 2, and that from 1 to
		// 0, cost the same: the one from the source comes first, and 0 is then
		// joined by the way from 2.
		{3, []int64{0, 9, 2, 3, 9, 0, 3, 1, 2, 3, 0, 9, 3, 1, 9, 0}, "{3 [0 9 2 5 3 4 5 6]} true", "[1 2 3] true"},
		// Behind the player 0, the ways from it to 1 and to 2 cost the same.
		{3, []int64{0, 2, 9, 9, 2, 0, 3, 3, 9, 3, 0, 1, 9, 3, 1, 0}, "{3 [0 2 9 5 9 5 10 6]} true", "[2 3 1] true"},
	} {
		is(t, "TreeWorths of "+show(c.players, c.costs), show(impl.TreeWorths(c.players, c.costs)), c.worths)
		is(t, "TreeShares of "+show(c.players, c.costs), show(impl.TreeShares(c.players, c.costs)), c.pays)
		checkTrees(t, c.players, c.costs)
	}
	// A set may not use places of others, however near these are.
	far := []int64{0, 1, 1000, 1, 0, 1, 1000, 1, 0}
	is(t, "TreeWorths of a far player", show(impl.TreeWorths(2, far)), "{2 [0 1 1000 2]} true")
	is(t, "TreeShares of a far player", show(impl.TreeShares(2, far)), "[1 1] true")
	long := copies[int64](1000, 49)
	for place := range 7 {
		long[place*8] = 0
	}
	want := []int64{}
	for _, team := range teamsOf(6) {
		want = append(want, int64(len(team))*1000)
	}
	is(t, "TreeWorths of the longest ways", show(impl.TreeWorths(6, long)), show(impl.Worths{Players: 6, Worths: want}, true))
	is(t, "TreeShares of the longest ways", show(impl.TreeShares(6, long)), show(copies[int64](1000, 6), true))
}

// checkNoTree asks both functions for costs that are not as they must be.
func checkNoTree(t *testing.T, players int64, costs []int64) {
	t.Helper()
	is(t, "TreeWorths of "+show(players, costs), show(impl.TreeWorths(players, costs)), noWorths)
	is(t, "TreeShares of "+show(players, costs), show(impl.TreeShares(players, costs)), "[] false")
}

func TestTreesNeedCostsOfWays(t *testing.T) {
	right := []int64{0, 3, 4, 3, 0, 1, 4, 1, 0}
	checkTrees(t, 2, right)
	for at := range right {
		from, to := at/3, at%3
		for _, cost := range append(farNumbers(), -1, 1001) {
			both := slices.Clone(right)
			both[at], both[to*3+from] = cost, cost
			checkNoTree(t, 2, both)
		}
		for _, more := range []int64{1, -1} {
			one := slices.Clone(right)
			one[at] += more // differs both ways, or is not 0 in the middle
			checkNoTree(t, 2, one)
		}
		for _, cost := range []int64{0, 1000} {
			both := slices.Clone(right)
			both[at], both[to*3+from] = cost, cost
			if from == to && cost != 0 {
				checkNoTree(t, 2, both)
				continue
			}
			checkTrees(t, 2, both)
		}
	}
	for n := range 100 {
		for players := int64(-3); players <= 8; players++ {
			if costs := make([]int64, n); players >= 1 && players <= 6 && int64(n) == (players+1)*(players+1) {
				checkTrees(t, players, costs)
			} else {
				checkNoTree(t, players, costs)
			}
		}
	}
	for _, players := range append(farNumbers(), 1<<32-1, -1<<32-1) {
		// The square of one place more is 0, 1 or 4 in 64 bits.
		checkNoTree(t, players, nil)
		checkNoTree(t, players, []int64{0})
		checkNoTree(t, players, []int64{0, 1, 1, 0})
	}
	checkNoTree(t, -2, []int64{0})
	checkNoTree(t, -3, []int64{0, 1, 1, 0})
	checkNoTree(t, 0, []int64{0})
}
