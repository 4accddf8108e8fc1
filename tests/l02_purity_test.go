package tests

import (
	"testing"

	"loop.example/g01365/impl"
)

// table has a game and what the functions of chapter 2 take with it.
type table struct {
	g             impl.Game
	a, b          impl.Player
	rows, columns []float32
}

// tableWith makes arguments that fit the sides of g, as far as these are sides.
func (d *dice) tableWith(g impl.Game) table {
	m, n := min(max(g.Rows, 1), impl.MaxSide), min(max(g.Columns, 1), impl.MaxSide)
	return table{g, d.player(m, n, d.from(1, 8)), d.player(n, m, d.from(1, 8)), d.chances(m), d.chances(n)}
}

// callsWithTable has all functions of chapter 2, the two that never fail first.
func callsWithTable(x table) []call {
	var list []call
	put := func(name string, run func() string) { list = append(list, call{name, run}) }
	put("ValidGame", func() string { return show(impl.ValidGame(x.g)) })
	put("SameGame", func() string { return show(impl.SameGame(x.g, dilemma()), impl.SameGame(x.g, x.g)) })
	put("ValidPlayer", func() string { return show(impl.ValidPlayer(x.a, x.g.Rows, x.g.Columns)) })
	put("ZeroSum", func() string { return show(impl.ZeroSum(x.g.Rows, x.g.Columns, x.g.A)) })
	return append(list, callsThatNeedAGame(x)...)
}

// callsThatNeedAGame have, but for the game, arguments with which most succeed.
func callsThatNeedAGame(x table) []call {
	var list []call
	put := func(name string, run func() string) { list = append(list, call{name, run}) }
	put("TurnGame", func() string { return show(impl.TurnGame(x.g)) })
	put("LessRow", func() string { return show(impl.LessRow(x.g, 0)) })
	put("LessColumn", func() string { return show(impl.LessColumn(x.g, 0)) })
	put("WorseRows", func() string { return show(impl.WorseRows(x.g)) })
	put("WorseColumns", func() string { return show(impl.WorseColumns(x.g)) })
	put("SurvivorsOf", func() string { return show(impl.SurvivorsOf(x.g)) })
	put("BestRows", func() string { return show(impl.BestRows(x.g, 0)) })
	put("BestColumns", func() string { return show(impl.BestColumns(x.g, 0)) })
	put("PureEquilibria", func() string { return show(impl.PureEquilibria(x.g)) })
	put("SafeRow", func() string { return show(impl.SafeRow(x.g)) })
	put("SafeColumn", func() string { return show(impl.SafeColumn(x.g)) })
	put("GainsOf", func() string { return show(impl.GainsOf(x.g, x.rows, x.columns)) })
	put("WouldGain", func() string { return show(impl.WouldGain(x.g, x.rows, x.columns)) })
	put("TwoByTwo", func() string { return show(impl.TwoByTwo(x.g)) })
	put("TwoRowValue", func() string { return show(impl.TwoRowValue(x.g)) })
	put("PotentialOf", func() string { return show(impl.PotentialOf(x.g)) })
	put("BetterSteps", func() string { return show(impl.BetterSteps(x.g, 0, 0)) })
	put("ParetoCells", func() string { return show(impl.ParetoCells(x.g)) })
	put("PlayMachines", func() string { return show(impl.PlayMachines(x.g, x.a, x.b, 70)) })
	put("RoundOf", func() string { return show(impl.RoundOf(x.g, x.a, x.b)) })
	put("MeanGains", func() string { return show(impl.MeanGains(x.g, x.a, x.b)) })
	put("LearnRows", func() string { return show(impl.LearnRows(x.g, 20)) })
	put("GamesShared", func() string { return show(impl.GamesShared([]impl.Game{x.g, dilemma()}, 3)) })
	return list
}

// zeroValues tells what functions return that fail.
func zeroValues(name string) string {
	switch name {
	case "TurnGame", "LessRow", "LessColumn":
		return "{0 0 [] []} false"
	case "SurvivorsOf", "LearnRows":
		return "[] [] false"
	case "SafeRow", "SafeColumn", "RoundOf":
		return "0 0 false"
	case "MeanGains":
		return "0 0 0 false"
	case "TwoRowValue":
		return "0 0 0 0 false"
	case "GainsOf":
		return "00000000 00000000 false"
	case "WouldGain":
		return "00000000 false"
	}
	return "[] false"
}

func TestAllFunctionsNeedAValidGame(t *testing.T) {
	d := dice(51)
	for _, g := range wrongGames() {
		for _, c := range callsThatNeedAGame(d.tableWith(g)) {
			is(t, c.name+" of "+show(g), c.run(), zeroValues(c.name))
		}
	}
}

func TestEqualTablesHaveEqualResults(t *testing.T) {
	var calls []call
	d := dice(52)
	for _, g := range append(someGames(), wrongGames()...) {
		calls = append(calls, callsWithTable(d.tableWith(g))...)
	}
	testEqualResults(t, calls, 27)
}

// guardedTable has a table in guarded memory, and tells whether all of it has
// stayed as it was.
func guardedTable(x table) (table, func() bool) {
	sameIntegers := guardAll(&x.g.A, &x.g.B, &x.a.Moves, &x.a.Next, &x.b.Moves, &x.b.Next)
	rows, sameRows := guarded(x.rows, 0.125)
	columns, sameColumns := guarded(x.columns, 0.125)
	x.rows, x.columns = rows, columns
	return x, func() bool {
		return sameIntegers() && sameRows() && sameColumns()
	}
}

func TestTablesStayAsTheyAre(t *testing.T) {
	d := dice(53)
	for _, g := range append(someGames(), wrongGames()...) {
		x, isSame := guardedTable(d.tableWith(g))
		for _, c := range callsWithTable(x) {
			c.run()
			if !isSame() {
				t.Fatalf("%s has changed an argument", c.name)
			}
		}
	}
}

func TestListsOfGamesStayAsTheyAre(t *testing.T) {
	d := dice(54)
	for range 50 {
		games := make([]impl.Game, 3)
		for i := range games {
			games[i] = d.game(2, 3, 1)
		}
		list, isSame := guarded(games, impl.Game{Rows: 77})
		impl.GamesShared(list, 2)
		if !isSame() {
			t.Fatal("GamesShared has changed its list")
		}
	}
}

// lists has the slices of a result.
type lists struct {
	name string
	run  func() [][]int64
}

func listsOfTable(x table) []lists {
	var all []lists
	put := func(name string, run func() [][]int64) { all = append(all, lists{name, run}) }
	one := func(name string, run func() ([]int64, bool)) {
		put(name, func() [][]int64 { list, _ := run(); return [][]int64{list} })
	}
	game := func(name string, run func() (impl.Game, bool)) {
		put(name, func() [][]int64 { g, _ := run(); return [][]int64{g.A, g.B} })
	}
	game("ZeroSum", func() (impl.Game, bool) { return impl.ZeroSum(x.g.Rows, x.g.Columns, x.g.A) })
	game("TurnGame", func() (impl.Game, bool) { return impl.TurnGame(x.g) })
	game("LessRow", func() (impl.Game, bool) { return impl.LessRow(x.g, x.g.Rows-1) })
	game("LessColumn", func() (impl.Game, bool) { return impl.LessColumn(x.g, x.g.Columns-1) })
	one("WorseRows", func() ([]int64, bool) { return impl.WorseRows(x.g) })
	one("WorseColumns", func() ([]int64, bool) { return impl.WorseColumns(x.g) })
	put("SurvivorsOf", func() [][]int64 { rows, columns, _ := impl.SurvivorsOf(x.g); return [][]int64{rows, columns} })
	one("BestRows", func() ([]int64, bool) { return impl.BestRows(x.g, 0) })
	one("BestColumns", func() ([]int64, bool) { return impl.BestColumns(x.g, 0) })
	one("PureEquilibria", func() ([]int64, bool) { return impl.PureEquilibria(x.g) })
	one("TwoByTwo", func() ([]int64, bool) { return impl.TwoByTwo(x.g) })
	one("PotentialOf", func() ([]int64, bool) { return impl.PotentialOf(x.g) })
	one("BetterSteps", func() ([]int64, bool) { return impl.BetterSteps(x.g, 0, 0) })
	one("ParetoCells", func() ([]int64, bool) { return impl.ParetoCells(x.g) })
	one("PlayMachines", func() ([]int64, bool) { return impl.PlayMachines(x.g, x.a, x.b, 30) })
	put("LearnRows", func() [][]int64 { rows, columns, _ := impl.LearnRows(x.g, 9); return [][]int64{rows, columns} })
	one("GamesShared", func() ([]int64, bool) { return impl.GamesShared([]impl.Game{x.g, x.g}, 2) })
	return all
}

func showLists(all [][]int64) string {
	text := ""
	for _, list := range all {
		text += show(list)
	}
	return text
}

// spoil writes over all memory of a list.
func spoil(list []int64) {
	all := list[:cap(list)]
	for i := range all {
		all[i] = -77
	}
}

// testNewMemory calls again, spoils all memory of what this returns, list by
// list, and looks at all the rest.
func testNewMemory(t *testing.T, f lists, isSame func() bool) {
	t.Helper()
	first, again := f.run(), f.run()
	want := showLists(first)
	is(t, f.name+" again", showLists(again), want)
	for i := range again {
		rest := showLists(again[i+1:])
		spoil(again[i])
		is(t, f.name+", the other list", showLists(again[i+1:]), rest)
	}
	is(t, f.name+", the first result", showLists(first), want)
	if !isSame() {
		t.Fatalf("%s shares memory with an argument", f.name)
	}
	is(t, f.name+" once more", showLists(f.run()), want)
}

func TestResultsOfTablesAreNewMemory(t *testing.T) {
	d := dice(55)
	for _, g := range someGames() {
		x, isSame := guardedTable(d.tableWith(g))
		for _, f := range listsOfTable(x) {
			testNewMemory(t, f, isSame)
		}
	}
}

func TestExamplesOfChapterTwo(t *testing.T) {
	g := dilemma()
	is(t, "worse rows", show(impl.WorseRows(g)), "[0] true")
	is(t, "worse columns", show(impl.WorseColumns(g)), "[0] true")
	is(t, "the pure equilibrium", show(impl.PureEquilibria(g)), "[3] true")
	zero, ok := impl.ZeroSum(2, 2, []int64{1, -1, -1, 1})
	is(t, "the zero sum", show(zero, ok), show(pennies(), true))
	is(t, "no pure equilibrium", show(impl.PureEquilibria(zero)), "[] true")
	is(t, "both choose with 1/2", show(impl.TwoByTwo(zero)), "[1 2 1 2] true")
}

func TestLimitsOfChapterTwo(t *testing.T) {
	got := []int64{impl.MaxSide, impl.MaxGain, impl.MaxMachine, impl.MaxRounds, impl.MaxWorkers}
	is(t, "limits", show(got), "[6 1000 8 1000 8]")
}
