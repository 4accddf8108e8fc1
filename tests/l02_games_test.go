package tests

import (
	"math"
	"slices"
	"testing"

	"loop.example/g01365/impl"
)

func TestValidGameHasLimits(t *testing.T) {
	for _, g := range someGames() {
		if !impl.ValidGame(g) {
			t.Fatalf("ValidGame of %s is false", show(g))
		}
	}
	for _, g := range wrongGames() {
		if impl.ValidGame(g) {
			t.Fatalf("ValidGame of %s is true", show(g))
		}
	}
}

func TestValidGameLooksAtEachGain(t *testing.T) {
	for cell := range 12 {
		for _, gain := range []int64{impl.MaxGain, -impl.MaxGain, impl.MaxGain + 1, -impl.MaxGain - 1} {
			inA, inB := equalGame(3, 4, 0), equalGame(3, 4, 0)
			inA.A[cell], inB.B[cell] = gain, gain
			want := show(gain == impl.MaxGain || gain == -impl.MaxGain)
			is(t, "ValidGame of "+show(inA), show(impl.ValidGame(inA)), want)
			is(t, "ValidGame of "+show(inB), show(impl.ValidGame(inB)), want)
		}
	}
}

func TestSameGameComparesAllIntegers(t *testing.T) {
	games := append(someGames()[:200], wrongGames()...)
	for i, g := range games {
		if !impl.SameGame(g, copyOf(g)) {
			t.Fatalf("SameGame of %s and itself is false", show(g))
		}
		for _, h := range games[i+1:] {
			is(t, "SameGame of "+show(g)+" and "+show(h), show(impl.SameGame(g, h)), show(show(g) == show(h)))
			is(t, "SameGame of "+show(h)+" and "+show(g), show(impl.SameGame(h, g)), show(show(g) == show(h)))
		}
	}
}

func TestSameGameSeesEachDifference(t *testing.T) {
	for _, g := range []impl.Game{dilemma(), equalGame(3, 2, 7), {Rows: -5, Columns: 9, A: []int64{5000}, B: []int64{0, math.MaxInt64}}} {
		for _, change := range []func(*impl.Game){
			func(g *impl.Game) { g.Rows++ },
			func(g *impl.Game) { g.Columns-- },
			func(g *impl.Game) { g.Rows, g.Columns = g.Columns+1, g.Rows+1 },
			func(g *impl.Game) { g.A = g.A[1:] },
			func(g *impl.Game) { g.B = g.B[:len(g.B)-1] },
			func(g *impl.Game) { g.A = append(g.A, 0) },
			func(g *impl.Game) { g.A, g.B = nil, append(g.A, g.B...) },
		} {
			other := copyOf(g)
			change(&other)
			is(t, "SameGame of "+show(g)+" and "+show(other), show(impl.SameGame(g, other), impl.SameGame(other, g)), "false false")
		}
		for cell := range g.A {
			other := copyOf(g)
			other.A[cell]++
			is(t, "SameGame of "+show(g)+" and "+show(other), show(impl.SameGame(g, other)), "false")
		}
		for cell := range g.B {
			other := copyOf(g)
			other.B[cell]--
			is(t, "SameGame of "+show(g)+" and "+show(other), show(impl.SameGame(g, other)), "false")
		}
	}
	turned := impl.Game{Rows: 3, Columns: 2, A: copies[int64](1, 6), B: copies[int64](1, 6)}
	is(t, "SameGame of sides exchanged", show(impl.SameGame(equalGame(2, 3, 1), turned)), "false")
	is(t, "SameGame of nil and empty lists", show(impl.SameGame(impl.Game{}, impl.Game{A: []int64{}, B: []int64{}})), "true")
}

func TestZeroSumTakesAllGains(t *testing.T) {
	for _, g := range someGames() {
		want := copyOf(g)
		for cell, gain := range g.A {
			want.B[cell] = 0 - gain
		}
		is(t, "ZeroSum of "+show(g), show(impl.ZeroSum(g.Rows, g.Columns, g.A)), show(want, true))
	}
	for _, g := range wrongGames() {
		got, ok := impl.ZeroSum(g.Rows, g.Columns, g.A)
		if impl.ValidGame(impl.Game{Rows: g.Rows, Columns: g.Columns, A: g.A, B: g.A}) {
			is(t, "ZeroSum of "+show(g.A), show(got.A, ok), show(g.A, true))
			continue
		}
		is(t, "ZeroSum of "+show(g), show(got, ok), "{0 0 [] []} false")
	}
}

func TestZeroSumNeedsGainsOfAGame(t *testing.T) {
	const none = "{0 0 [] []} false"
	is(t, "ZeroSum of one cell", show(impl.ZeroSum(1, 1, []int64{1000})), "{1 1 [1000] [-1000]} true")
	is(t, "ZeroSum of one column", show(impl.ZeroSum(3, 1, []int64{-1000, 0, 2})), "{3 1 [-1000 0 2] [1000 0 -2]} true")
	is(t, "ZeroSum of 6 times 6", show(impl.ZeroSum(6, 6, copies[int64](4, 36))), show(impl.Game{Rows: 6, Columns: 6, A: copies[int64](4, 36), B: copies[int64](-4, 36)}, true))
	is(t, "ZeroSum beyond MaxGain", show(impl.ZeroSum(1, 1, []int64{1001})), none)
	is(t, "ZeroSum below -MaxGain", show(impl.ZeroSum(1, 2, []int64{0, -1001})), none)
	is(t, "ZeroSum of the least integer", show(impl.ZeroSum(1, 1, []int64{math.MinInt64})), none)
	is(t, "ZeroSum of too few", show(impl.ZeroSum(2, 2, []int64{1, 2, 3})), none)
	is(t, "ZeroSum of too many", show(impl.ZeroSum(2, 2, []int64{1, 2, 3, 4, 5})), none)
	is(t, "ZeroSum of none", show(impl.ZeroSum(0, 0, nil)), none)
	is(t, "ZeroSum of seven rows", show(impl.ZeroSum(7, 1, copies[int64](0, 7))), none)
	is(t, "ZeroSum of seven columns", show(impl.ZeroSum(1, 7, copies[int64](0, 7))), none)
	is(t, "ZeroSum of sides below 0", show(impl.ZeroSum(-1, -1, []int64{0})), none)
}

func TestTurnGameExchangesThePlayers(t *testing.T) {
	g := impl.Game{Rows: 2, Columns: 3, A: []int64{1, 2, 3, 4, 5, 6}, B: []int64{11, 12, 13, 14, 15, 16}}
	is(t, "TurnGame", show(impl.TurnGame(g)), "{3 2 [11 14 12 15 13 16] [1 4 2 5 3 6]} true")
	for _, g := range someGames() {
		turned, ok := impl.TurnGame(g)
		is(t, "sides of TurnGame of "+show(g), show(turned.Rows, turned.Columns, int64(len(turned.A)), int64(len(turned.B)), ok), show(g.Columns, g.Rows, int64(len(g.A)), int64(len(g.A)), true))
		for row := range g.Rows {
			for column := range g.Columns {
				is(t, "TurnGame of "+show(g), show(gainA(turned, column, row), gainB(turned, column, row)), show(gainB(g, row, column), gainA(g, row, column)))
			}
		}
		is(t, "TurnGame twice", show(impl.TurnGame(turned)), show(g, true))
	}
}

func TestLessRowAndLessColumnLeaveOneOut(t *testing.T) {
	const none = "{0 0 [] []} false"
	for _, g := range someGames() {
		for i := range g.Rows {
			want := none
			if g.Rows > 1 {
				want = show(cutRow(g, i), true)
			}
			is(t, "LessRow of "+show(g), show(impl.LessRow(g, i)), want)
		}
		for k := range g.Columns {
			want := none
			if g.Columns > 1 {
				want = show(cutColumn(g, k), true)
			}
			is(t, "LessColumn of "+show(g), show(impl.LessColumn(g, k)), want)
		}
		for _, beyond := range []int64{0, 1, 1 << 32, math.MaxInt64 - 6} {
			is(t, "LessRow beyond", show(impl.LessRow(g, g.Rows+beyond)), none)
			is(t, "LessRow below", show(impl.LessRow(g, -1-beyond)), none)
			is(t, "LessColumn beyond", show(impl.LessColumn(g, g.Columns+beyond)), none)
			is(t, "LessColumn below", show(impl.LessColumn(g, -1-beyond)), none)
		}
	}
}

func TestWorseIsLessEverywhere(t *testing.T) {
	for _, g := range append(someGames(), smallGames()...) {
		is(t, "WorseRows of "+show(g), show(impl.WorseRows(g)), show(worseRowsReference(g), true))
		is(t, "WorseColumns of "+show(g), show(impl.WorseColumns(g)), show(worseColumnsReference(g), true))
	}
}

func TestWorseAtTheEdges(t *testing.T) {
	for _, c := range []struct {
		rows, columns int64
		a, b          []int64
		worseRows     string
		worseColumns  string
	}{
		{1, 1, []int64{0}, []int64{0}, "[]", "[]"},
		{2, 2, []int64{1, 1, 1, 1}, []int64{1, 1, 1, 1}, "[]", "[]"}, // equal is not worse
		{2, 2, []int64{1, 2, 1, 3}, []int64{1, 2, 1, 3}, "[]", "[0]"},
		{1, 3, []int64{9, 9, 9}, []int64{2, 5, 5}, "[]", "[0]"},
		{3, 1, []int64{2, 5, 5}, []int64{9, 9, 9}, "[0]", "[]"},
		{3, 2, []int64{0, 0, 1, 1, 2, 2}, []int64{0, 0, 0, 0, 0, 0}, "[0 1]", "[]"}, // also by one that is worse itself
		{3, 2, []int64{4, 0, 0, 4, 1, 1}, []int64{0, 0, 0, 0, 0, 0}, "[]", "[]"},    // worse than a mixture alone
		{2, 2, []int64{0, 1, 1, 0}, []int64{1, 2, 3, 4}, "[]", "[0]"},               // told by B, in rows
		{2, 2, []int64{3, 4, 1, 2}, []int64{0, 1, 1, 0}, "[1]", "[]"},               // told by A, in columns
	} {
		g := impl.Game{Rows: c.rows, Columns: c.columns, A: c.a, B: c.b}
		is(t, "WorseRows of "+show(g), show(impl.WorseRows(g)), c.worseRows+" true")
		is(t, "WorseColumns of "+show(g), show(impl.WorseColumns(g)), c.worseColumns+" true")
	}
}

func TestSurvivorsAreLeftInAnyOrder(t *testing.T) {
	for _, g := range append(someGames(), smallGames()...) {
		rows, columns := survivorsReference(g)
		is(t, "SurvivorsOf "+show(g), show(impl.SurvivorsOf(g)), show(rows, columns, true))
	}
}

func TestSurvivorsAreToldByTheirFirstIndices(t *testing.T) {
	// The column 0 is worse, then the row 0, then the column 1, then the row 2.
	g := impl.Game{Rows: 3, Columns: 3,
		A: []int64{9, 0, 0, 0, 1, 2, 5, 2, 1},
		B: []int64{0, 9, 1, 0, 1, 2, 0, 1, 2}}
	is(t, "SurvivorsOf "+show(g), show(impl.SurvivorsOf(g)), "[1] [2] true")
	turned, _ := impl.TurnGame(g)
	is(t, "SurvivorsOf "+show(turned), show(impl.SurvivorsOf(turned)), "[2] [1] true")
	is(t, "SurvivorsOf equal gains", show(impl.SurvivorsOf(equalGame(6, 6, 3))), "[0 1 2 3 4 5] [0 1 2 3 4 5] true")
	is(t, "SurvivorsOf one cell", show(impl.SurvivorsOf(equalGame(1, 1, -1000))), "[0] [0] true")
	long := impl.Game{Rows: 6, Columns: 6}
	for cell := range int64(36) {
		// Who guesses 1 less than the other one, but at least 0, gains most.
		row, column := cell/6, cell%6
		long.A = append(long.A, -max(row-max(column-1, 0), max(column-1, 0)-row))
		long.B = append(long.B, -max(column-max(row-1, 0), max(row-1, 0)-column))
	}
	rows, columns := survivorsReference(long)
	is(t, "SurvivorsOf guesses", show(impl.SurvivorsOf(long)), show(rows, columns, true))
	is(t, "SurvivorsOf guesses", show(rows, columns), "[0] [0]")
}

func TestWhatIsWorseIsInNoEquilibrium(t *testing.T) {
	for _, g := range append(someGames(), smallGames()...) {
		pure, _ := impl.PureEquilibria(g)
		worseRows, _ := impl.WorseRows(g)
		worseColumns, _ := impl.WorseColumns(g)
		rows, columns, _ := impl.SurvivorsOf(g)
		for _, cell := range pure {
			row, column := cell/g.Columns, cell%g.Columns
			if slices.Contains(worseRows, row) || slices.Contains(worseColumns, column) {
				t.Fatalf("the equilibrium %d of %s is worse", cell, show(g))
			}
			if !slices.Contains(rows, row) || !slices.Contains(columns, column) {
				t.Fatalf("the equilibrium %d of %s is not left", cell, show(g))
			}
		}
	}
}

// TestNoEquilibriumIsLost leaves out a worse choice: the equilibria stay.
func TestNoEquilibriumIsLost(t *testing.T) {
	d := dice(22)
	for range 3000 {
		g := d.game(d.from(2, 6), d.from(1, 4), 3)
		worse, _ := impl.WorseRows(g)
		if len(worse) == 0 {
			continue
		}
		part, ok := impl.LessRow(g, worse[0])
		pure, _ := impl.PureEquilibria(g)
		left, _ := impl.PureEquilibria(part)
		for i, cell := range left {
			if cell/g.Columns >= worse[0] {
				left[i] += g.Columns
			}
		}
		is(t, "PureEquilibria of "+show(part), show(left, ok), show(pure, true))
	}
}

func TestBestAnswersAreAllOnes(t *testing.T) {
	for _, g := range append(someGames(), smallGames()...) {
		for k := range g.Columns {
			is(t, "BestRows of "+show(g), show(impl.BestRows(g, k)), show(bestRowsReference(g, k), true))
		}
		for i := range g.Rows {
			is(t, "BestColumns of "+show(g), show(impl.BestColumns(g, i)), show(bestColumnsReference(g, i), true))
		}
	}
	g := impl.Game{Rows: 2, Columns: 3, A: []int64{-1, 5, 0, -1, 4, 2}, B: []int64{7, 7, 6, -9, -8, -8}}
	is(t, "BestRows with a tie", show(impl.BestRows(g, 0)), "[0 1] true")
	is(t, "BestRows", show(impl.BestRows(g, 1)), "[0] true")
	is(t, "BestColumns with a tie", show(impl.BestColumns(g, 0)), "[0 1] true")
	is(t, "BestColumns with a later tie", show(impl.BestColumns(g, 1)), "[1 2] true")
	is(t, "BestRows of equal gains", show(impl.BestRows(equalGame(6, 2, -7), 1)), "[0 1 2 3 4 5] true")
	is(t, "BestColumns of equal gains", show(impl.BestColumns(equalGame(2, 6, -7), 1)), "[0 1 2 3 4 5] true")
}

func TestBestAnswersNeedAChoiceThatThereIs(t *testing.T) {
	g := equalGame(2, 4, 1)
	for _, i := range []int64{-1, 2, 3, 4, math.MaxInt64, math.MinInt64} {
		is(t, "BestColumns of "+show(i), show(impl.BestColumns(g, i)), "[] false")
	}
	for _, k := range []int64{-1, 4, 5, math.MaxInt64, math.MinInt64} {
		is(t, "BestRows of "+show(k), show(impl.BestRows(g, k)), "[] false")
	}
	is(t, "BestRows of 3", show(impl.BestRows(g, 3)), "[0 1] true")
	is(t, "BestColumns of 1", show(impl.BestColumns(g, 1)), "[0 1 2 3] true")
}

func TestPureEquilibriaAreAllOnes(t *testing.T) {
	for _, g := range append(someGames(), smallGames()...) {
		is(t, "PureEquilibria of "+show(g), show(impl.PureEquilibria(g)), show(pureReference(g), true))
	}
	is(t, "PureEquilibria of none", show(impl.PureEquilibria(pennies())), "[] true")
	is(t, "PureEquilibria of equal gains", show(impl.PureEquilibria(equalGame(2, 3, 5))), "[0 1 2 3 4 5] true")
	is(t, "PureEquilibria of one cell", show(impl.PureEquilibria(equalGame(1, 1, -1000))), "[0] true")
	meet := impl.Game{Rows: 2, Columns: 3, A: []int64{2, 0, 0, 0, 0, 1}, B: []int64{1, 0, 0, 0, 0, 2}}
	is(t, "PureEquilibria of two", show(impl.PureEquilibria(meet)), "[0 5] true")
}

func TestParetoCellsAreBeatenByNone(t *testing.T) {
	for _, g := range append(someGames(), smallGames()...) {
		is(t, "ParetoCells of "+show(g), show(impl.ParetoCells(g)), show(paretoReference(g), true))
	}
	is(t, "ParetoCells of equal gains", show(impl.ParetoCells(equalGame(2, 2, 3))), "[0 1 2 3] true")
	is(t, "ParetoCells of a zero sum", show(impl.ParetoCells(pennies())), "[0 1 2 3] true")
	ties := impl.Game{Rows: 1, Columns: 5, A: []int64{2, 2, 3, 3, 0}, B: []int64{2, 1, 1, 1, 2}}
	is(t, "ParetoCells with ties", show(impl.ParetoCells(ties)), "[0 2 3] true")
}

func TestSafeChoicesAreTheFirstOnes(t *testing.T) {
	for _, g := range append(someGames(), smallGames()...) {
		row, gain := safeRowReference(g)
		is(t, "SafeRow of "+show(g), show(impl.SafeRow(g)), show(row, gain, true))
		column, loss := safeColumnReference(g)
		is(t, "SafeColumn of "+show(g), show(impl.SafeColumn(g)), show(column, loss, true))
		if gain > loss {
			t.Fatalf("%s: the row %d has more than the column %d leaves", show(g), row, column)
		}
	}
	g := impl.Game{Rows: 3, Columns: 3, A: []int64{0, 9, 9, 4, 3, 8, 3, 8, 5}, B: copies[int64](1000, 9)}
	is(t, "SafeRow, the first one", show(impl.SafeRow(g)), "1 3 true")
	is(t, "SafeColumn", show(impl.SafeColumn(g)), "0 4 true")
	is(t, "SafeRow of least gains", show(impl.SafeRow(equalGame(6, 6, -1000))), "0 -1000 true")
	is(t, "SafeColumn of greatest gains", show(impl.SafeColumn(equalGame(6, 6, 1000))), "0 1000 true")
	is(t, "SafeColumn of least gains", show(impl.SafeColumn(equalGame(6, 6, -1000))), "0 -1000 true")
	is(t, "SafeRow of greatest gains", show(impl.SafeRow(equalGame(6, 6, 1000))), "0 1000 true")
}

// TestSaddlesAreEquilibria has safe choices of zero sums that gain and lose the
// same: they make an equilibrium, and all equilibria gain as much.
func TestSaddlesAreEquilibria(t *testing.T) {
	for _, g := range append(someGames(), smallGames()...) {
		zero, _ := impl.ZeroSum(g.Rows, g.Columns, g.A)
		row, gain, _ := impl.SafeRow(zero)
		column, loss, _ := impl.SafeColumn(zero)
		pure, _ := impl.PureEquilibria(zero)
		is(t, "a saddle of "+show(zero), show(len(pure) > 0), show(gain == loss))
		for _, cell := range pure {
			is(t, "the gain of "+show(zero), show(zero.A[cell]), show(gain))
		}
		if gain == loss && !slices.Contains(pure, row*zero.Columns+column) {
			t.Fatalf("%s: safe choices are no equilibrium", show(zero))
		}
	}
}
