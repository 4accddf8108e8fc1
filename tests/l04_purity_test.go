package tests

import (
	"testing"

	"loop.example/g01365/impl"
)

// estate has values, and what the functions of things take with them; home has
// as many rooms as players.
type estate struct {
	v, home                                     impl.Values
	owners, order, rooms, prices, first, second []int64
}

// estateWith makes arguments that fit v, as far as its numbers can be.
func (d *dice) estateWith(v impl.Values) estate {
	players, n := min(max(v.Players, 1), impl.MaxHeirs), min(max(v.Things, 1), impl.MaxThings)
	first, second := d.splitWorths(n, 9)
	return estate{
		v, d.values(players, players, 9),
		d.integers(n, 0, players-1), d.integers(d.from(1, 8), 0, players-1),
		d.order(players), d.integers(players, -5, 5), first, second,
	}
}

// feast has a cake and what the functions of cakes take with it.
type feast struct {
	c      impl.Cake
	owners []int64
	cuts   []float32
}

func (d *dice) feastWith(c impl.Cake) feast {
	players := min(max(c.Players, 1), impl.MaxHeirs)
	fit := impl.Cake{Players: players, Pieces: min(max(c.Pieces, 1), impl.MaxPieces)}
	return feast{c, d.order(players), d.cuts(fit)}
}

// callsWithEstate has all functions of things, those first that never fail or
// take other values.
func callsWithEstate(x estate) []call {
	var list []call
	put := func(name string, run func() string) { list = append(list, call{name, run}) }
	put("ValidValues", func() string { return show(impl.ValidValues(x.v)) })
	put("SameValues", func() string { return show(impl.SameValues(x.v, x.home), impl.SameValues(x.v, x.v)) })
	put("SplitOne", func() string { return show(impl.SplitOne(x.first, x.second)) })
	put("RentOf", func() string { return show(impl.RentOf(x.home, 77)) })
	put("IsRentFair", func() string { return show(impl.IsRentFair(x.home, x.rooms, x.prices)) })
	return append(list, callsThatNeedValues(x)...)
}

// callsThatNeedValues have, but for the values, arguments with which most succeed.
func callsThatNeedValues(x estate) []call {
	var list []call
	put := func(name string, run func() string) { list = append(list, call{name, run}) }
	put("OwnWorths", func() string { return show(impl.OwnWorths(x.v, x.owners)) })
	put("EnvyTable", func() string { return show(impl.EnvyTable(x.v, x.owners)) })
	put("IsEnvyFree", func() string { return show(impl.IsEnvyFree(x.v, x.owners)) })
	put("IsFreeUpToOne", func() string { return show(impl.IsFreeUpToOne(x.v, x.owners)) })
	put("IsEvenShare", func() string { return show(impl.IsEvenShare(x.v, x.owners)) })
	put("TakeTurns", func() string { return show(impl.TakeTurns(x.v, x.order)) })
	put("EnvyRounds", func() string { return show(impl.EnvyRounds(x.v)) })
	put("MostWorth", func() string { return show(impl.MostWorth(x.v)) })
	put("MostLeast", func() string { return show(impl.MostLeast(x.v)) })
	put("MostProduct", func() string { return show(impl.MostProduct(x.v)) })
	put("LeastPart", func() string { return show(impl.LeastPart(x.v, 0)) })
	put("RentOf", func() string { return show(impl.RentOf(x.v, 10)) })
	put("IsRentFair", func() string { return show(impl.IsRentFair(x.v, x.rooms, x.prices)) })
	put("PartsShared", func() string { return show(impl.PartsShared(x.v, 2)) })
	return list
}

// callsWithFeast has all functions of cakes, the two that never fail first.
func callsWithFeast(x feast) []call {
	var list []call
	put := func(name string, run func() string) { list = append(list, call{name, run}) }
	put("ValidCake", func() string { return show(impl.ValidCake(x.c)) })
	put("SameCake", func() string { return show(impl.SameCake(x.c, twoPieces()), impl.SameCake(x.c, x.c)) })
	return append(list, callsThatNeedACake(x)...)
}

// callsThatNeedACake have, but for the cake, arguments with which most succeed.
func callsThatNeedACake(x feast) []call {
	var list []call
	put := func(name string, run func() string) { list = append(list, call{name, run}) }
	put("CakeWorth", func() string { return show(impl.CakeWorth(x.c, 0, 0.25, 1)) })
	put("CakeMark", func() string { return show(impl.CakeMark(x.c, 0, 0.25, 3)) })
	put("CutAndChoose", func() string { return show(impl.CutAndChoose(x.c)) })
	put("MovingKnife", func() string { return show(impl.MovingKnife(x.c)) })
	put("CakeEnvy", func() string { return show(impl.CakeEnvy(x.c, x.owners, x.cuts)) })
	return list
}

// noResults tells what functions of chapter 4 return that fail.
func noResults(name string) string {
	switch name {
	case "IsEnvyFree", "IsFreeUpToOne", "IsEvenShare", "IsRentFair":
		return "false false"
	case "MostWorth", "MostLeast", "MostProduct":
		return "[] 0 false"
	case "LeastPart":
		return "0 false"
	case "RentOf", "MovingKnife":
		return "[] [] false"
	case "CakeWorth", "CakeMark":
		return noNumber
	case "CutAndChoose":
		return "00000000 false false"
	}
	return "[] false"
}

func TestAllFunctionsNeedValidValuesOrCakes(t *testing.T) {
	d := dice(191)
	for _, v := range wrongValues() {
		for _, c := range callsThatNeedValues(d.estateWith(v)) {
			is(t, c.name+" of "+show(v), c.run(), noResults(c.name))
		}
	}
	for _, cake := range wrongCakes() {
		for _, c := range callsThatNeedACake(d.feastWith(cake)) {
			is(t, c.name+" of "+show(cake), c.run(), noResults(c.name))
		}
	}
}

func TestEqualValuesAndCakesHaveEqualResults(t *testing.T) {
	var calls []call
	d := dice(192)
	for _, v := range append(someValues(), wrongValues()...) {
		calls = append(calls, callsWithEstate(d.estateWith(v))...)
	}
	for _, c := range append(someCakes(), wrongCakes()...) {
		calls = append(calls, callsWithFeast(d.feastWith(c))...)
	}
	testEqualResults(t, calls, 24)
}

// guardedEstate has an estate in guarded memory, and tells whether all of it has
// stayed as it was.
func guardedEstate(x estate) (estate, func() bool) {
	isSame := guardAll(&x.v.Worths, &x.home.Worths, &x.owners, &x.order, &x.rooms, &x.prices, &x.first, &x.second)
	return x, isSame
}

// guardedFeast does the same for a feast.
func guardedFeast(x feast) (feast, func() bool) {
	sameIntegers := guardAll(&x.c.Worths, &x.owners)
	cuts, sameCuts := guarded(x.cuts, 0.125)
	x.cuts = cuts
	return x, func() bool { return sameIntegers() && sameCuts() }
}

func TestValuesAndCakesStayAsTheyAre(t *testing.T) {
	d := dice(193)
	unchanged := func(calls []call, isSame func() bool) {
		t.Helper()
		for _, c := range calls {
			c.run()
			if !isSame() {
				t.Fatalf("%s has changed an argument", c.name)
			}
		}
	}
	for _, v := range append(someValues(), wrongValues()...) {
		x, isSame := guardedEstate(d.estateWith(v))
		unchanged(callsWithEstate(x), isSame)
	}
	for _, c := range append(someCakes(), wrongCakes()...) {
		x, isSame := guardedFeast(d.feastWith(c))
		unchanged(callsWithFeast(x), isSame)
	}
}

func listsOfEstate(x estate) []lists {
	var all []lists
	put := func(name string, run func() [][]int64) { all = append(all, lists{name, run}) }
	one := func(name string, run func() ([]int64, bool)) {
		put(name, func() [][]int64 { list, _ := run(); return [][]int64{list} })
	}
	best := func(name string, run func() ([]int64, int64, bool)) {
		put(name, func() [][]int64 { owners, _, _ := run(); return [][]int64{owners} })
	}
	one("OwnWorths", func() ([]int64, bool) { return impl.OwnWorths(x.v, x.owners) })
	one("EnvyTable", func() ([]int64, bool) { return impl.EnvyTable(x.v, x.owners) })
	one("TakeTurns", func() ([]int64, bool) { return impl.TakeTurns(x.v, x.order) })
	one("EnvyRounds", func() ([]int64, bool) { return impl.EnvyRounds(x.v) })
	best("MostWorth", func() ([]int64, int64, bool) { return impl.MostWorth(x.v) })
	best("MostLeast", func() ([]int64, int64, bool) { return impl.MostLeast(x.v) })
	best("MostProduct", func() ([]int64, int64, bool) { return impl.MostProduct(x.v) })
	put("SplitOne", func() [][]int64 { owners, _, _, _, _ := impl.SplitOne(x.first, x.second); return [][]int64{owners} })
	put("RentOf", func() [][]int64 { rooms, prices, _ := impl.RentOf(x.home, 9); return [][]int64{rooms, prices} })
	one("PartsShared", func() ([]int64, bool) { return impl.PartsShared(x.v, 2) })
	return all
}

// testNewPlaces spoils all memory of places or worths of a cake.
func testNewPlaces(t *testing.T, name string, run func() []float32, isSame func() bool) {
	t.Helper()
	first, again := run(), run()
	want := show(first)
	all := again[:cap(again)]
	for i := range all {
		all[i] = -77
	}
	is(t, name+", the first result", show(first), want)
	is(t, name+" once more", show(run()), want)
	if !isSame() {
		t.Fatalf("%s shares memory with an argument", name)
	}
}

func TestResultsOfValuesAndCakesAreNewMemory(t *testing.T) {
	d := dice(194)
	for _, v := range someValues() {
		x, isSame := guardedEstate(d.estateWith(v))
		for _, f := range listsOfEstate(x) {
			testNewMemory(t, f, isSame)
		}
	}
	for _, c := range someCakes() {
		x, isSame := guardedFeast(d.feastWith(c))
		players := lists{"MovingKnife", func() [][]int64 { owners, _, _ := impl.MovingKnife(x.c); return [][]int64{owners} }}
		testNewMemory(t, players, isSame)
		testNewPlaces(t, "MovingKnife", func() []float32 { _, cuts, _ := impl.MovingKnife(x.c); return cuts }, isSame)
		testNewPlaces(t, "CakeEnvy", func() []float32 { table, _ := impl.CakeEnvy(x.c, x.owners, x.cuts); return table }, isSame)
	}
}

func TestExamplesOfChapterFour(t *testing.T) {
	owners, ok := impl.TakeTurns(twoThings(), []int64{0, 1})
	is(t, "who takes the first thing", show(owners[0], ok), "0 true")
	rooms, prices, ok := impl.RentOf(twoRooms(), 40)
	is(t, "rooms that cost 20 each, times 2", show(rooms, prices, ok), "[0 1] [40 40] true")
	is(t, "where the cake is cut, and who takes what", show(impl.CutAndChoose(twoPieces())), show(float32(1), true, true))
}

func TestLimitsOfChapterFour(t *testing.T) {
	got := []int64{impl.MaxHeirs, impl.MaxThings, impl.MaxPrize, impl.MaxPieces}
	is(t, "limits", show(got), "[6 8 1000 16]")
}
