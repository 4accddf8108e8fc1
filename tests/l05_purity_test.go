package tests

import (
	"slices"
	"testing"

	"loop.example/g01365/impl"
)

// party has wishes, houses, friends and gives, and what the functions of chapter
// 5 take with them.
type party struct {
	w, other                                 impl.Wishes
	match, first, last, turn, seats, schools []int64
	houses, friends, gives                   [][]int64
	order, given, rooms                      []int64
}

// partyWith makes arguments that fit w, as far as its lists can be.
func (d *dice) partyWith(w impl.Wishes) party {
	n := min(max(int64(len(w.Left)), 1), impl.MaxPairs)
	fit := w
	if !impl.ValidWishes(w) {
		fit = d.wishes(n, 1)
	}
	x := party{
		w: w, other: d.wishes(n, 1), match: d.match(fit), first: bestForLeft(fit.Left, fit.Right), seats: d.seats(n, 3),
		houses: d.fullLists(n), friends: d.friends(2 * d.from(1, 4)), gives: d.gives(d.from(1, 8), 3),
		order: d.order(n), given: d.order(n),
	}
	x.last = slices.Clone(x.first)
	if turns := turnsOfMatch(fit, x.first); len(turns) > 0 {
		x.turn = turns[0]
		x.last = takenTurn(x.first, x.turn)
	}
	x.schools = d.schoolMatch(fit, x.seats)
	all := roomings(int64(len(x.friends)))
	x.rooms = all[d.from(0, int64(len(all)-1))]
	return x
}

// callsWithParty has all functions of chapter 5, those first that never fail or
// take no wishes of two sides.
func callsWithParty(x party) []call {
	var list []call
	put := func(name string, run func() string) { list = append(list, call{name, run}) }
	put("ValidWishes", func() string { return show(impl.ValidWishes(x.w)) })
	put("SameWishes", func() string { return show(impl.SameWishes(x.w, x.other), impl.SameWishes(x.w, x.w)) })
	put("HouseRounds", func() string { return show(impl.HouseRounds(x.houses)) })
	put("HouseTurns", func() string { return show(impl.HouseTurns(x.houses, x.order)) })
	put("HouseBlock", func() string { return show(impl.HouseBlock(x.houses, x.given)) })
	put("RoomsOf", func() string { return show(impl.RoomsOf(x.friends)) })
	put("AreRooms", func() string { return show(impl.AreRooms(x.friends, x.rooms)) })
	put("GiveRings", func() string { return show(impl.GiveRings(x.gives, 4)) })
	put("MostGiven", func() string { return show(impl.MostGiven(x.gives, 3)) })
	return append(list, callsThatNeedWishes(x)...)
}

// callsThatNeedWishes have, but for the wishes, arguments with which most succeed.
func callsThatNeedWishes(x party) []call {
	var list []call
	put := func(name string, run func() string) { list = append(list, call{name, run}) }
	put("TurnWishes", func() string { return show(impl.TurnWishes(x.w)) })
	put("IsMatch", func() string { return show(impl.IsMatch(x.w, x.match)) })
	put("BlockOf", func() string { return show(impl.BlockOf(x.w, x.match)) })
	put("IsStable", func() string { return show(impl.IsStable(x.w, x.match)) })
	put("AskMatch", func() string { return show(impl.AskMatch(x.w)) })
	put("AllStable", func() string { return show(impl.AllStable(x.w)) })
	put("MeetMatch", func() string { return show(impl.MeetMatch(x.w, x.first, x.last)) })
	put("JoinMatch", func() string { return show(impl.JoinMatch(x.w, x.first, x.last)) })
	put("TurnsOf", func() string { return show(impl.TurnsOf(x.w, x.first)) })
	put("TakeTurn", func() string { return show(impl.TakeTurn(x.w, x.first, x.turn)) })
	put("FairMatch", func() string { return show(impl.FairMatch(x.w)) })
	put("WishesShared", func() string { return show(impl.WishesShared([]impl.Wishes{x.other, x.w}, 2)) })
	put("SchoolMatch", func() string { return show(impl.SchoolMatch(x.w, x.seats)) })
	put("SchoolBlock", func() string { return show(impl.SchoolBlock(x.w, x.seats, x.schools)) })
	return list
}

// failedResults tells what functions of chapter 5 return that fail.
func failedResults(name string) string {
	switch name {
	case "TurnWishes":
		return noWishes
	case "IsMatch":
		return "false"
	case "BlockOf", "SchoolBlock":
		return "0 0 false"
	case "IsStable":
		return "false false"
	case "AskMatch", "FairMatch":
		return "[] 0 false"
	}
	return "[] false"
}

func TestAllFunctionsNeedValidWishes(t *testing.T) {
	d := dice(291)
	for _, w := range wrongWishes() {
		for _, c := range callsThatNeedWishes(d.partyWith(w)) {
			is(t, c.name+" of "+show(w), c.run(), failedResults(c.name))
		}
	}
}

func TestEqualPartiesHaveEqualResults(t *testing.T) {
	var calls []call
	d := dice(292)
	for _, w := range append(someWishes(), wrongWishes()...) {
		calls = append(calls, callsWithParty(d.partyWith(w))...)
	}
	testEqualResults(t, calls, 23)
}

// guardLists puts lists of lists, and each one of these, into guarded memory.
func guardLists(all ...*[][]int64) func() bool {
	var checks []func() bool
	for _, lists := range all {
		inner := slices.Clone(*lists)
		for at := range inner {
			checks = append(checks, guardAll(&inner[at]))
		}
		part, isSame := guarded(inner, []int64{77})
		*lists = part
		checks = append(checks, isSame)
	}
	return func() bool {
		return !slices.ContainsFunc(checks, func(isSame func() bool) bool { return !isSame() })
	}
}

// guardedParty has a party in guarded memory, and tells whether all of it has
// stayed as it was.
func guardedParty(x party) (party, func() bool) {
	sameLists := guardLists(&x.w.Left, &x.w.Right, &x.other.Left, &x.other.Right, &x.houses, &x.friends, &x.gives)
	sameIntegers := guardAll(&x.match, &x.first, &x.last, &x.turn, &x.seats, &x.schools, &x.order, &x.given, &x.rooms)
	return x, func() bool { return sameLists() && sameIntegers() }
}

func TestPartiesStayAsTheyAre(t *testing.T) {
	d := dice(293)
	for _, w := range append(someWishes(), wrongWishes()...) {
		x, isSame := guardedParty(d.partyWith(w))
		for _, c := range callsWithParty(x) {
			c.run()
			if !isSame() {
				t.Fatalf("%s has changed an argument", c.name)
			}
		}
	}
	for range 50 {
		list, isSame := guarded([]impl.Wishes{d.wishes(3, 1), d.wishes(8, 2), twoPairs()}, emptyWishes(7))
		impl.WishesShared(list, 2)
		if !isSame() {
			t.Fatal("WishesShared has changed its list")
		}
	}
}

// TestWrongListsStayAsTheyAre has lists that are none, some of which are looked
// at with something behind them.
func TestWrongListsStayAsTheyAre(t *testing.T) {
	unchanged := func(lists [][]int64, call func(lists [][]int64)) {
		t.Helper()
		isSame := guardLists(&lists)
		call(lists)
		if !isSame() {
			t.Fatalf("%s has changed", show(lists))
		}
	}
	for _, houses := range append(someHouses(), wrongHouses()...) {
		unchanged(houses, func(lists [][]int64) { impl.HouseRounds(lists) })
		unchanged(houses, func(lists [][]int64) { impl.HouseTurns(lists, numbersTo(int64(len(lists)))) })
		unchanged(houses, func(lists [][]int64) { impl.HouseBlock(lists, numbersTo(int64(len(lists)))) })
	}
	for _, friends := range append(someFriends(), wrongFriends()...) {
		unchanged(friends, func(lists [][]int64) { impl.RoomsOf(lists) })
		unchanged(friends, func(lists [][]int64) { impl.AreRooms(lists, []int64{1, 0}) })
	}
	for _, gives := range append(someGives(), wrongGives()...) {
		unchanged(gives, func(lists [][]int64) { impl.GiveRings(lists, 3) })
		unchanged(gives, func(lists [][]int64) { impl.MostGiven(lists, 3) })
	}
}

func listsOfParty(x party) []lists {
	var all []lists
	put := func(name string, run func() [][]int64) { all = append(all, lists{name, run}) }
	one := func(name string, run func() ([]int64, bool)) {
		put(name, func() [][]int64 { list, _ := run(); return [][]int64{list} })
	}
	many := func(name string, run func() ([][]int64, bool)) {
		put(name, func() [][]int64 { lists, _ := run(); return lists })
	}
	put("TurnWishes", func() [][]int64 { w, _ := impl.TurnWishes(x.w); return slices.Concat(w.Left, w.Right) })
	put("AskMatch", func() [][]int64 { match, _, _ := impl.AskMatch(x.w); return [][]int64{match} })
	many("AllStable", func() ([][]int64, bool) { return impl.AllStable(x.w) })
	one("MeetMatch", func() ([]int64, bool) { return impl.MeetMatch(x.w, x.first, x.last) })
	one("JoinMatch", func() ([]int64, bool) { return impl.JoinMatch(x.w, x.first, x.last) })
	many("TurnsOf", func() ([][]int64, bool) { return impl.TurnsOf(x.w, x.first) })
	one("TakeTurn", func() ([]int64, bool) { return impl.TakeTurn(x.w, x.first, x.turn) })
	put("FairMatch", func() [][]int64 { match, _, _ := impl.FairMatch(x.w); return [][]int64{match} })
	many("WishesShared", func() ([][]int64, bool) { return impl.WishesShared([]impl.Wishes{x.w, x.w, x.other}, 2) })
	one("SchoolMatch", func() ([]int64, bool) { return impl.SchoolMatch(x.w, x.seats) })
	one("HouseRounds", func() ([]int64, bool) { return impl.HouseRounds(x.houses) })
	one("HouseTurns", func() ([]int64, bool) { return impl.HouseTurns(x.houses, x.order) })
	one("HouseBlock", func() ([]int64, bool) { return impl.HouseBlock(x.houses, x.given) })
	one("RoomsOf", func() ([]int64, bool) { return impl.RoomsOf(x.friends) })
	many("GiveRings", func() ([][]int64, bool) { return impl.GiveRings(x.gives, 4) })
	put("MostGiven", func() [][]int64 { _, rings, _ := impl.MostGiven(x.gives, 2); return rings })
	return all
}

// testNewLists spoils the memory of lists of lists of a result.
func testNewLists(t *testing.T, f lists, isSame func() bool) {
	t.Helper()
	first, again := f.run(), f.run()
	want := showLists(first)
	for at := range again[:cap(again)] {
		again[:cap(again)][at] = []int64{-77}
	}
	is(t, f.name+", the first result", showLists(first), want)
	is(t, f.name+" once more", showLists(f.run()), want)
	if !isSame() {
		t.Fatalf("%s shares memory with an argument", f.name)
	}
}

func TestResultsOfPartiesAreNewMemory(t *testing.T) {
	d := dice(294)
	for _, w := range someWishes() {
		x, isSame := guardedParty(d.partyWith(w))
		for _, f := range listsOfParty(x) {
			testNewMemory(t, f, isSame)
			testNewLists(t, f, isSame)
		}
		left := lists{"TurnWishes", func() [][]int64 { w, _ := impl.TurnWishes(x.w); return w.Left }}
		right := lists{"TurnWishes", func() [][]int64 { w, _ := impl.TurnWishes(x.w); return w.Right }}
		testNewLists(t, left, isSame)
		testNewLists(t, right, isSame)
	}
}

func TestExamplesOfChapterFive(t *testing.T) {
	is(t, "two stable matches", show(impl.AllStable(twoPairs())), "[[0 1] [1 0]] true")
	is(t, "houses change hands", show(impl.HouseRounds(threeHouses())), "[1 2 0] true")
	for _, houses := range [][][]int64{{{1, 0, 2}, {2, 1, 0}, {0, 2, 1}}, {{1, 2, 0}, {2, 0, 1}, {0, 1, 2}}} {
		is(t, "other houses change hands", show(impl.HouseRounds(houses)), "[1 2 0] true")
	}
	is(t, "a ring of three", show(impl.GiveRings(threeInARing(), 3)), "[[0 1 2]] true")
}

func TestLimitsOfChapterFive(t *testing.T) {
	got := []int64{impl.MaxPairs, impl.MaxFriends, impl.MaxSeats}
	is(t, "limits", show(got), "[8 8 8]")
}
