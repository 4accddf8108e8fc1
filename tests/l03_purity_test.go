package tests

import (
	"testing"

	"loop.example/g01365/impl"
)

// coalition has worths and what the functions of chapter 3 take with them.
type coalition struct {
	w, other                                 impl.Worths
	dividends, order, shares, weights, costs []int64
}

// coalitionWith makes arguments that fit the players of w, as far as these can be.
func (d *dice) coalitionWith(w impl.Worths) coalition {
	players := min(max(w.Players, 1), impl.MaxMembers)
	return coalition{
		w, d.worths(players, -9, 9),
		dividendsReference(d.worths(players, -9, 9)), d.order(players), d.integers(players, -9, 9),
		append(d.integers(players-1, 0, 9), 5), d.wayCosts(players, 9),
	}
}

// callsWithCoalition has all functions of chapter 3, those first that take no
// worths or never fail.
func callsWithCoalition(x coalition) []call {
	var list []call
	put := func(name string, run func() string) { list = append(list, call{name, run}) }
	players := int64(len(x.order))
	put("ValidWorths", func() string { return show(impl.ValidWorths(x.w)) })
	put("SameWorths", func() string { return show(impl.SameWorths(x.w, x.other), impl.SameWorths(x.w, x.w)) })
	put("FromDividends", func() string { return show(impl.FromDividends(players, x.dividends)) })
	put("VoteWorths", func() string { return show(impl.VoteWorths(5, x.weights)) })
	put("RunwayWorths", func() string { return show(impl.RunwayWorths(x.weights)) })
	put("TreeWorths", func() string { return show(impl.TreeWorths(players, x.costs)) })
	put("TreeShares", func() string { return show(impl.TreeShares(players, x.costs)) })
	return append(list, callsThatNeedWorths(x)...)
}

// callsThatNeedWorths have, but for the worths, arguments with which most succeed.
func callsThatNeedWorths(x coalition) []call {
	var list []call
	put := func(name string, run func() string) { list = append(list, call{name, run}) }
	put("WeighWorths", func() string { return show(impl.WeighWorths(x.w, x.other, 1, -2)) })
	put("DividendsOf", func() string { return show(impl.DividendsOf(x.w)) })
	put("MoreInOrder", func() string { return show(impl.MoreInOrder(x.w, x.order)) })
	put("SharesOf", func() string { return show(impl.SharesOf(x.w)) })
	put("SwingsOf", func() string { return show(impl.SwingsOf(x.w)) })
	put("SharesShared", func() string { return show(impl.SharesShared([]impl.Worths{x.w, x.other, x.w}, 2)) })
	put("IsNull", func() string { return show(impl.IsNull(x.w, 0)) })
	put("AreAlike", func() string { return show(impl.AreAlike(x.w, 0, 1)) })
	put("IsRising", func() string { return show(impl.IsRising(x.w)) })
	put("IsJoining", func() string { return show(impl.IsJoining(x.w)) })
	put("IsConvex", func() string { return show(impl.IsConvex(x.w)) })
	put("OtherOf", func() string { return show(impl.OtherOf(x.w)) })
	put("WithoutPlayer", func() string { return show(impl.WithoutPlayer(x.w, 0)) })
	put("WorstComplaint", func() string { return show(impl.WorstComplaint(x.w, x.shares, 3)) })
	put("InCore", func() string { return show(impl.InCore(x.w, x.shares, 1)) })
	put("CorePlans", func() string { return show(impl.CorePlans(x.w, 3)) })
	put("KernelStep", func() string { return show(impl.KernelStep(x.w, x.shares)) })
	put("LeastWinners", func() string { return show(impl.LeastWinners(x.w)) })
	put("VetoOf", func() string { return show(impl.VetoOf(x.w)) })
	return list
}

// zeroResults tells what functions return that fail.
func zeroResults(name string) string {
	switch name {
	case "WeighWorths", "OtherOf", "WithoutPlayer":
		return noWorths
	case "SharesOf":
		return "[] 0 false"
	case "IsNull", "AreAlike", "IsRising", "IsJoining", "IsConvex", "InCore":
		return "false false"
	case "WorstComplaint":
		return "0 0 false"
	}
	return "[] false"
}

func TestAllFunctionsNeedValidWorths(t *testing.T) {
	d := dice(92)
	for _, w := range wrongWorths() {
		for _, c := range callsThatNeedWorths(d.coalitionWith(w)) {
			is(t, c.name+" of "+show(w), c.run(), zeroResults(c.name))
		}
	}
}

func TestEqualCoalitionsHaveEqualResults(t *testing.T) {
	var calls []call
	d := dice(93)
	for _, w := range append(someWorths(), wrongWorths()...) {
		calls = append(calls, callsWithCoalition(d.coalitionWith(w))...)
	}
	testEqualResults(t, calls, 26)
}

// guardedCoalition has a coalition in guarded memory, and tells whether all of
// it has stayed as it was.
func guardedCoalition(x coalition) (coalition, func() bool) {
	isSame := guardAll(&x.w.Worths, &x.other.Worths, &x.dividends, &x.order, &x.shares, &x.weights, &x.costs)
	return x, isSame
}

func TestCoalitionsStayAsTheyAre(t *testing.T) {
	d := dice(94)
	for _, w := range append(someWorths(), wrongWorths()...) {
		x, isSame := guardedCoalition(d.coalitionWith(w))
		for _, c := range callsWithCoalition(x) {
			c.run()
			if !isSame() {
				t.Fatalf("%s has changed an argument", c.name)
			}
		}
	}
}

func TestListsOfWorthsStayAsTheyAre(t *testing.T) {
	d := dice(95)
	for range 50 {
		list, isSame := guarded([]impl.Worths{d.worths(3, -1, 1), d.worths(2, -1, 1), together()}, impl.Worths{Players: 77})
		impl.SharesShared(list, 2)
		if !isSame() {
			t.Fatal("SharesShared has changed its list")
		}
	}
}

func listsOfCoalition(x coalition) []lists {
	var all []lists
	put := func(name string, run func() [][]int64) { all = append(all, lists{name, run}) }
	one := func(name string, run func() ([]int64, bool)) {
		put(name, func() [][]int64 { list, _ := run(); return [][]int64{list} })
	}
	worths := func(name string, run func() (impl.Worths, bool)) {
		put(name, func() [][]int64 { w, _ := run(); return [][]int64{w.Worths} })
	}
	players := int64(len(x.order))
	worths("WeighWorths", func() (impl.Worths, bool) { return impl.WeighWorths(x.w, x.other, 1, 0) })
	worths("FromDividends", func() (impl.Worths, bool) { return impl.FromDividends(players, x.dividends) })
	worths("OtherOf", func() (impl.Worths, bool) { return impl.OtherOf(x.w) })
	worths("WithoutPlayer", func() (impl.Worths, bool) { return impl.WithoutPlayer(x.w, players-1) })
	worths("VoteWorths", func() (impl.Worths, bool) { return impl.VoteWorths(1, x.weights) })
	worths("RunwayWorths", func() (impl.Worths, bool) { return impl.RunwayWorths(x.weights) })
	worths("TreeWorths", func() (impl.Worths, bool) { return impl.TreeWorths(players, x.costs) })
	one("TreeShares", func() ([]int64, bool) { return impl.TreeShares(players, x.costs) })
	one("DividendsOf", func() ([]int64, bool) { return impl.DividendsOf(x.w) })
	one("MoreInOrder", func() ([]int64, bool) { return impl.MoreInOrder(x.w, x.order) })
	one("SharesOf", func() ([]int64, bool) { shares, _, ok := impl.SharesOf(x.w); return shares, ok })
	one("SwingsOf", func() ([]int64, bool) { return impl.SwingsOf(x.w) })
	one("KernelStep", func() ([]int64, bool) { return impl.KernelStep(x.w, x.shares) })
	one("LeastWinners", func() ([]int64, bool) { return impl.LeastWinners(x.w) })
	one("VetoOf", func() ([]int64, bool) { return impl.VetoOf(x.w) })
	put("SharesShared", func() [][]int64 {
		all, _ := impl.SharesShared([]impl.Worths{x.w, x.w, x.other}, 2)
		return all
	})
	put("CorePlans", func() [][]int64 { all, _ := impl.CorePlans(x.w, 2); return all })
	return all
}

func TestResultsOfCoalitionsAreNewMemory(t *testing.T) {
	d := dice(96)
	for _, w := range append(someWorths(), impl.Worths{Players: 3, Worths: []int64{0, 0, 0, 0, 0, 0, 0, 3}}) {
		x, isSame := guardedCoalition(d.coalitionWith(w))
		for _, f := range listsOfCoalition(x) {
			testNewMemory(t, f, isSame)
		}
	}
}

// TestPlansAreMemoryOfTheirOwn spoils the list of the plans itself.
func TestPlansAreMemoryOfTheirOwn(t *testing.T) {
	first, _ := impl.CorePlans(together(), 6)
	again, _ := impl.CorePlans(together(), 6)
	for i := range again {
		again[i] = nil
	}
	is(t, "CorePlans", show(first, true), "[[0 6] [1 5] [2 4] [3 3] [4 2] [5 1] [6 0]] true")
	is(t, "CorePlans once more", show(impl.CorePlans(together(), 6)), show(first, true))
}

func TestExamplesOfChapterThree(t *testing.T) {
	is(t, "the shares of two players", show(impl.SharesOf(together())), "[6 6] 2 true")
	votes, ok := impl.VoteWorths(3, []int64{2, 1, 1})
	is(t, "votes", show(votes, ok), "{3 [0 0 0 1 0 1 0 1]} true")
	is(t, "the least winners", show(impl.LeastWinners(votes)), "[3 5] true")
	is(t, "the veto", show(impl.VetoOf(votes)), "[0] true")
	runways, ok := impl.RunwayWorths([]int64{2, 5})
	is(t, "runways together", show(runways.Worths[3], ok), "5 true")
}

func TestLimitsOfChapterThree(t *testing.T) {
	got := []int64{impl.MaxMembers, impl.MaxSetWorth, impl.MaxWorkers}
	is(t, "limits", show(got), "[6 10000 8]")
}
