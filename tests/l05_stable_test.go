package tests

import (
	"slices"
	"testing"

	"loop.example/g01365/impl"
)

// checkAsked compares AskMatch with who is left when all who can't have one
// another are struck out.
func checkAsked(t *testing.T, w impl.Wishes) {
	t.Helper()
	want := bestForLeft(w.Left, w.Right)
	is(t, "AskMatch of "+show(w), show(impl.AskMatch(w)), show(want, asksReference(w, want), true))
	is(t, "whether it is stable", show(isMatchReference(w, want), isStableReference(w, want)), "true true")
}

func TestWhatIsAskedForIsStable(t *testing.T) {
	for _, w := range append(someWishes(), smallWishes()...) {
		checkAsked(t, w)
	}
	d := dice(221)
	for range 6000 {
		checkAsked(t, d.wishes(d.from(1, 8), d.from(0, 1)))
	}
}

// TestWhatIsAskedForIsDearest compares with each stable match: nobody who asks
// has a dearer one in it, and nobody who is asked a less dear one.
func TestWhatIsAskedForIsDearest(t *testing.T) {
	d := dice(222)
	list := append(toldWishes(someWishes()), smallWishes()...)
	for range 1500 {
		n := d.from(3, 5)
		list = append(list, d.wishes(n, n-1))
	}
	several := 0
	for _, w := range list {
		match, _, _ := impl.AskMatch(w)
		stable := stableReference(w)
		if len(stable) > 1 {
			several++
		}
		for _, other := range stable {
			for i, list := range w.Left {
				is(t, "the dearest one of "+show(w, match, other), show(dearestOf(list, match[i], other[i], false)), show(match[i]))
			}
			for j, list := range w.Right {
				mine, his := rank(match, int64(j)), rank(other, int64(j))
				is(t, "the least dear one of "+show(w, match, other), show(dearestOf(list, mine, his, true)), show(mine))
			}
		}
	}
	if several < 300 {
		t.Errorf("only %d wishes have several stable matches", several)
	}
}

func TestAskMatchAtTheEdges(t *testing.T) {
	all := numbersTo(8)
	last := impl.Wishes{Left: copies(all, 8), Right: copies([]int64{7, 6, 5, 4, 3, 2, 1, 0}, 8)}
	for _, c := range []struct {
		w    impl.Wishes
		want string
	}{
		{emptyWishes(1), "[-1] 0 true"},
		{emptyWishes(8), "[-1 -1 -1 -1 -1 -1 -1 -1] 0 true"},
		{impl.Wishes{Left: [][]int64{{0}}, Right: [][]int64{{0}}}, "[0] 1 true"},
		{impl.Wishes{Left: [][]int64{{0}}, Right: [][]int64{nil}}, "[-1] 1 true"}, // refused
		{impl.Wishes{Left: [][]int64{nil}, Right: [][]int64{{0}}}, "[-1] 0 true"}, // nobody asks
		{twoPairs(), "[0 1] 2 true"},
		{impl.Wishes{Left: twoPairs().Right, Right: twoPairs().Left}, "[1 0] 2 true"},
		{tenStable(), "[0 1 2 3] 4 true"},
		{alikeWishes(8), "[0 1 2 3 4 5 6 7] 36 true"},
		{last, "[7 6 5 4 3 2 1 0] 36 true"}, // each one is left by all before
		{impl.Wishes{Left: copies(all, 8), Right: make([][]int64, 8)}, "[-1 -1 -1 -1 -1 -1 -1 -1] 64 true"},
		// 0 asks 0 and is left for 1; asks 1, who does not take it; and has nobody.
		{impl.Wishes{Left: [][]int64{{0, 1}, {0}}, Right: [][]int64{{1, 0}, {1}}}, "[-1 0] 3 true"},
		// 1 is left for 0, who asks 0 second.
		{impl.Wishes{Left: [][]int64{{1, 0}, {0, 1}}, Right: [][]int64{{0, 1}, {1}}}, "[0 1] 4 true"},
		// 0 keeps 2; 2 is taken by nobody but 1, and 1 asks last.
		{impl.Wishes{Left: [][]int64{{2}, {2, 1}, {2, 0, 1}}, Right: [][]int64{{1}, {2, 1}, {0, 2, 1}}}, "[2 -1 1] 6 true"},
	} {
		is(t, "AskMatch of "+show(c.w), show(impl.AskMatch(c.w)), c.want)
		checkAsked(t, c.w)
	}
	for _, w := range wrongWishes() {
		is(t, "AskMatch of "+show(w), show(impl.AskMatch(w)), "[] 0 false")
	}
}

func TestAllStableMatchesAreTold(t *testing.T) {
	for _, w := range append(toldWishes(someWishes()), smallWishes()...) {
		want := stableReference(w)
		is(t, "AllStable of "+show(w), show(impl.AllStable(w)), show(want, true))
		// All of them leave the same ones alone.
		for _, match := range want {
			for i, j := range match {
				is(t, "who has nobody in "+show(w, match), show(j == -1), show(want[0][i] == -1))
			}
		}
	}
	is(t, "AllStable of two", show(impl.AllStable(twoPairs())), "[[0 1] [1 0]] true")
	is(t, "AllStable of none who take anybody", show(impl.AllStable(emptyWishes(5))), "[[-1 -1 -1 -1 -1]] true")
	is(t, "AllStable of those who turn", show(impl.AllStable(crosswise(5))), "[[0 1 2 3 4] [1 2 3 4 0] [2 3 4 0 1] [3 4 0 1 2] [4 0 1 2 3]] true")
	ten, _ := impl.AllStable(tenStable())
	sixteen, _ := impl.AllStable(sixteenStable())
	is(t, "how many are stable", show(int64(len(ten)), int64(len(sixteen))), "10 16")
}

// TestTooManyForAllStable has more than 5 lists on a side.
func TestTooManyForAllStable(t *testing.T) {
	for n := int64(1); n <= 8; n++ {
		for _, w := range []impl.Wishes{emptyWishes(int(n)), alikeWishes(n), crosswise(n)} {
			_, ok := impl.AllStable(w)
			is(t, "AllStable of "+show(w), show(ok), show(n <= 5))
			_, _, ok = impl.FairMatch(w)
			is(t, "FairMatch of "+show(w), show(ok), show(n <= 5))
			if n > 5 {
				is(t, "AllStable of "+show(w), show(impl.AllStable(w)), "[] false")
				is(t, "FairMatch of "+show(w), show(impl.FairMatch(w)), "[] 0 false")
			}
		}
	}
	for _, w := range wrongWishes() {
		is(t, "AllStable of "+show(w), show(impl.AllStable(w)), "[] false")
		is(t, "FairMatch of "+show(w), show(impl.FairMatch(w)), "[] 0 false")
	}
}

// checkMixed compares both matches that two stable ones make; they are stable.
func checkMixed(t *testing.T, w impl.Wishes, a, b []int64) {
	t.Helper()
	what := " of " + show(w, a, b)
	meet, join := mixedReference(w, a, b, false), mixedReference(w, a, b, true)
	is(t, "MeetMatch"+what, show(impl.MeetMatch(w, a, b)), show(meet, true))
	is(t, "JoinMatch"+what, show(impl.JoinMatch(w, a, b)), show(join, true))
	is(t, "whether both are stable", show(isStableReference(w, meet), isStableReference(w, join)), "true true")
}

func TestMeetsAndJoinsOfAllStableMatches(t *testing.T) {
	d := dice(223)
	list := append(toldWishes(someWishes()), smallWishes()...)
	for range 200 {
		list = append(list, d.wishes(5, 4))
	}
	for _, w := range list {
		stable := stableReference(w)
		for _, a := range stable {
			for _, b := range stable {
				checkMixed(t, w, a, b)
			}
		}
	}
	for n := int64(6); n <= 8; n++ {
		for a := range n {
			for b := range n {
				checkMixed(t, crosswise(n), turnedAround(n, a)[0], turnedAround(n, b)[0])
			}
		}
	}
	for _, w := range someWishes() {
		// What both sides ask for.
		a := bestForLeft(w.Left, w.Right)
		b := copies[int64](-1, len(a))
		for j, i := range bestForLeft(w.Right, w.Left) {
			if i != -1 {
				b[i] = int64(j)
			}
		}
		checkMixed(t, w, a, b)
		is(t, "MeetMatch of what both sides ask for in "+show(w), show(impl.MeetMatch(w, b, a)), show(a, true))
		is(t, "JoinMatch of what both sides ask for in "+show(w), show(impl.JoinMatch(w, b, a)), show(b, true))
	}
}

// needStable has all functions that take a stable match fail for one that is not
// stable, or no match at all.
func needStable(t *testing.T, w impl.Wishes, stable, wrong []int64) {
	t.Helper()
	what := " of " + show(w, stable, wrong)
	is(t, "MeetMatch"+what, show(impl.MeetMatch(w, stable, wrong)), "[] false")
	is(t, "MeetMatch the other way"+what, show(impl.MeetMatch(w, wrong, stable)), "[] false")
	is(t, "MeetMatch with itself"+what, show(impl.MeetMatch(w, wrong, wrong)), "[] false")
	is(t, "JoinMatch"+what, show(impl.JoinMatch(w, stable, wrong)), "[] false")
	is(t, "JoinMatch the other way"+what, show(impl.JoinMatch(w, wrong, stable)), "[] false")
	is(t, "JoinMatch with itself"+what, show(impl.JoinMatch(w, wrong, wrong)), "[] false")
	is(t, "TurnsOf"+what, show(impl.TurnsOf(w, wrong)), "[] false")
	for _, turn := range append(turnsOfMatch(w, stable), []int64{0, 1}, nil) {
		is(t, "TakeTurn"+what, show(impl.TakeTurn(w, wrong, turn)), "[] false")
	}
}

func TestMatchesThatAreNotStableAreRefused(t *testing.T) {
	d := dice(224)
	count := 0
	for _, w := range append(someWishes(), smallWishes()...) {
		stable := bestForLeft(w.Left, w.Right)
		for range 3 {
			if wrong := d.match(w); !isStableReference(w, wrong) {
				needStable(t, w, stable, wrong)
				count++
			}
		}
		for _, wrong := range wrongMatches(int64(len(w.Left))) {
			needStable(t, w, stable, wrong)
		}
		for i, j := range stable {
			if j != -1 {
				// Both would rather be together than alone.
				wrong := slices.Clone(stable)
				wrong[i] = -1
				needStable(t, w, stable, wrong)
			}
		}
	}
	if count < 1000 {
		t.Errorf("only %d matches are not stable", count)
	}
	for _, w := range wrongWishes() {
		n := min(len(w.Left), 8)
		needStable(t, w, copies[int64](-1, len(w.Left)), numbersTo(int64(n)))
	}
}

func TestFairMatchHasTheLeastSumOfPlaces(t *testing.T) {
	d := dice(225)
	list := append(toldWishes(someWishes()), smallWishes()...)
	for range 400 {
		list = append(list, d.wishes(5, 4))
	}
	later, equal := 0, 0
	for _, w := range list {
		want, sum := fairReference(w)
		is(t, "FairMatch of "+show(w), show(impl.FairMatch(w)), show(want, sum, true))
		stable := stableReference(w)
		least := slices.DeleteFunc(slices.Clone(stable), func(match []int64) bool { return placesReference(w, match) > sum })
		if show(stable[0]) != show(want) {
			later++
		}
		if len(least) > 1 {
			equal++
		}
	}
	if later < 40 || equal < 20 {
		t.Errorf("only %d fair matches are not the first stable ones, and %d of several", later, equal)
	}
}

func TestFairMatchAtTheEdges(t *testing.T) {
	for _, c := range []struct {
		w    impl.Wishes
		want string
	}{
		{emptyWishes(1), "[-1] 0 true"},
		{emptyWishes(5), "[-1 -1 -1 -1 -1] 0 true"},
		{impl.Wishes{Left: [][]int64{{0}}, Right: [][]int64{{0}}}, "[0] 0 true"},
		{twoPairs(), "[0 1] 2 true"},          // the first one of two with the sum 2
		{crosswise(3), "[0 1 2] 6 true"},      // of three
		{crosswise(5), "[0 1 2 3 4] 20 true"}, // of five
		{alikeWishes(4), "[0 1 2 3] 12 true"},
		// [0 1] has the places 0 and 0, 1 and 2, and [1 0] has 1 and 1, 0 and 0.
		{impl.Wishes{Left: [][]int64{{0, 1}, {1, 0}, nil}, Right: [][]int64{{1, 0}, {0, 2, 1}, nil}}, "[1 0 -1] 2 true"},
		{tenStable(), "[0 1 2 3] 12 true"},
	} {
		is(t, "FairMatch of "+show(c.w), show(impl.FairMatch(c.w)), c.want)
	}
}
