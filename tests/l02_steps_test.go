package tests

import (
	"math"
	"slices"
	"testing"

	"loop.example/g01365/impl"
)

// hasPotential reports whether no ring of four cells gains in sum, which is so
// just if there is a potential.
func hasPotential(g impl.Game) bool {
	for i := range g.Rows {
		for j := range i {
			for k := range g.Columns {
				for l := range k {
					sum := gainA(g, j, k) - gainA(g, i, k) + gainB(g, j, l) - gainB(g, j, k)
					sum += gainA(g, i, l) - gainA(g, j, l) + gainB(g, i, k) - gainB(g, i, l)
					if sum != 0 {
						return false
					}
				}
			}
		}
	}
	return true
}

// checkPotential compares all pairs of cells in a row or in a column.
func checkPotential(t *testing.T, g impl.Game) {
	t.Helper()
	list, ok := impl.PotentialOf(g)
	what := "PotentialOf " + show(g) + ": " + show(list, ok)
	if !hasPotential(g) {
		is(t, what, show(list, ok), "[] false")
		return
	}
	if !ok || len(list) != len(g.A) || list[0] != 0 {
		t.Fatal(what)
	}
	for row := range g.Rows {
		for column := range g.Columns {
			cell := row*g.Columns + column
			for i := range g.Rows {
				is(t, what, show(list[cell]-list[i*g.Columns+column]), show(g.A[cell]-gainA(g, i, column)))
			}
			for k := range g.Columns {
				is(t, what, show(list[cell]-list[row*g.Columns+k]), show(g.B[cell]-gainB(g, row, k)))
			}
		}
	}
}

func TestPotentialChangesAsGainsDo(t *testing.T) {
	for _, g := range append(someGames(), smallGames()...) {
		checkPotential(t, g)
	}
	d := dice(31)
	for range 500 {
		g := d.potentialGame(d.from(1, 6), d.from(1, 6))
		checkPotential(t, g)
		// One gain more in one cell, and there is none.
		cell := d.from(0, int64(len(g.A))-1)
		g.A[cell]++
		checkPotential(t, g)
		g.A[cell]--
		g.B[cell]--
		checkPotential(t, g)
	}
}

func TestPotentialAtTheEdges(t *testing.T) {
	far := impl.Game{Rows: 2, Columns: 2, A: []int64{-1000, -1000, 1000, 1000}, B: []int64{-1000, 1000, -1000, 1000}}
	for _, c := range []struct {
		g    impl.Game
		want string
	}{
		{dilemma(), "[0 2 2 3] true"},
		{pennies(), "[] false"},
		{far, "[0 2000 2000 4000] true"}, // more than a gain can be
		{equalGame(1, 1, 1000), "[0] true"},
		{equalGame(2, 3, -5), "[0 0 0 0 0 0] true"},
		{impl.Game{Rows: 1, Columns: 3, A: []int64{7, -8, 9}, B: []int64{4, 1, 6}}, "[0 -3 2] true"},
		{impl.Game{Rows: 3, Columns: 1, A: []int64{4, 1, 6}, B: []int64{7, -8, 9}}, "[0 -3 2] true"},
	} {
		is(t, "PotentialOf "+show(c.g), show(impl.PotentialOf(c.g)), c.want)
	}
	// What breaks the potential is in the last cell alone.
	for _, change := range []func(*impl.Game){
		func(g *impl.Game) { g.A[35]++ },
		func(g *impl.Game) { g.A[35]-- },
		func(g *impl.Game) { g.B[35]++ },
		func(g *impl.Game) { g.B[35]-- },
	} {
		g := equalGame(6, 6, 0)
		change(&g)
		is(t, "PotentialOf "+show(g), show(impl.PotentialOf(g)), "[] false")
	}
}

func TestBetterStepsAreToldCellByCell(t *testing.T) {
	for _, g := range append(someGames(), smallGames()...) {
		for row := range g.Rows {
			for column := range g.Columns {
				is(t, "BetterSteps of "+show(g, row, column), show(impl.BetterSteps(g, row, column)), show(stepsReference(g, row, column), true))
			}
		}
	}
}

func TestBetterStepsAtTheEdges(t *testing.T) {
	first := impl.Game{Rows: 3, Columns: 2, A: []int64{0, 0, 5, 0, 5, 0}, B: []int64{0, 1, 3, 0, 9, 9}}
	ring := impl.Game{Rows: 3, Columns: 2, A: []int64{1, 0, 0, 1, -1, -1}, B: []int64{0, 1, 1, 0, 1, 0}}
	for _, c := range []struct {
		g           impl.Game
		row, column int64
		want        string
	}{
		{dilemma(), 0, 0, "[0 2 3] true"},
		{dilemma(), 1, 1, "[3] true"},
		{pennies(), 0, 0, "[0 1 3 2 0] true"}, // 0 comes again
		{pennies(), 1, 0, "[2 0 1 3 2] true"},
		{first, 0, 0, "[0 2] true"}, // to the first of best rows
		{first, 2, 0, "[4] true"},   // nobody goes for nothing
		{first, 2, 1, "[5] true"},
		{first, 0, 1, "[1] true"},
		{ring, 2, 1, "[5 3 2 0 1 3] true"}, // the first cell does not come again, the second one does
		{ring, 0, 0, "[0 1 3 2 0] true"},
		{equalGame(6, 6, 4), 5, 5, "[35] true"},
		{equalGame(1, 1, 4), 0, 0, "[0] true"},
	} {
		is(t, "BetterSteps of "+show(c.g, c.row, c.column), show(impl.BetterSteps(c.g, c.row, c.column)), c.want)
	}
}

func TestBetterStepsNeedACellThatThereIs(t *testing.T) {
	g := equalGame(2, 4, 1)
	for _, i := range []int64{-1, 4, 6, math.MaxInt64, math.MinInt64} {
		is(t, "BetterSteps from the row "+show(i), show(impl.BetterSteps(g, i, 0)), "[] false")
		is(t, "BetterSteps from the column "+show(i), show(impl.BetterSteps(g, 0, i)), "[] false")
	}
	is(t, "BetterSteps from the row 2", show(impl.BetterSteps(g, 2, 0)), "[] false")
	is(t, "BetterSteps from a cell in sum", show(impl.BetterSteps(g, -1, 5)), "[] false")
	is(t, "BetterSteps from the last cell", show(impl.BetterSteps(g, 1, 3)), "[7] true")
}

// TestBetterStepsRaiseThePotential ends them in an equilibrium, where there is a
// potential, which each step raises.
func TestBetterStepsRaiseThePotential(t *testing.T) {
	d := dice(32)
	for range 2000 {
		g := d.potentialGame(d.from(1, 6), d.from(1, 6))
		potential, ok := impl.PotentialOf(g)
		steps, stepsOK := impl.BetterSteps(g, d.from(0, g.Rows-1), d.from(0, g.Columns-1))
		if !ok || !stepsOK {
			t.Fatalf("%s has no potential or no steps", show(g))
		}
		for i := range len(steps) - 1 {
			if potential[steps[i]] >= potential[steps[i+1]] {
				t.Fatalf("%s: the steps %v do not raise the potential %v", show(g), steps, potential)
			}
		}
		pure, _ := impl.PureEquilibria(g)
		if !slices.Contains(pure, steps[len(steps)-1]) {
			t.Fatalf("%s: the steps %v do not end in an equilibrium", show(g), steps)
		}
	}
}

func TestValidPlayerHasLimits(t *testing.T) {
	d := dice(33)
	for own := int64(-1); own <= 8; own++ {
		for other := int64(-1); other <= 8; other++ {
			isSize := own >= 1 && own <= impl.MaxSide && other >= 1 && other <= impl.MaxSide
			for states := range int64(11) {
				p := impl.Player{Moves: make([]int64, states), Next: make([]int64, max(0, states*other))}
				want := isSize && states >= 1 && states <= impl.MaxMachine
				is(t, "ValidPlayer of "+show(p, own, other), show(impl.ValidPlayer(p, own, other)), show(want))
				if want {
					p = d.player(own, other, states)
					is(t, "ValidPlayer of "+show(p, own, other), show(impl.ValidPlayer(p, own, other)), "true")
				}
			}
		}
	}
	for _, n := range []int64{math.MaxInt64, math.MinInt64, 1 << 32, 1 << 62} {
		p := d.player(2, 2, 4)
		is(t, "ValidPlayer of far sides", show(impl.ValidPlayer(p, n, 2), impl.ValidPlayer(p, 2, n)), "false false")
		is(t, "ValidPlayer without Next", show(impl.ValidPlayer(impl.Player{Moves: p.Moves}, 2, n)), "false")
	}
}

func TestValidPlayerLooksAtAllNumbers(t *testing.T) {
	d := dice(34)
	for range 300 {
		own, other, states := d.from(1, 6), d.from(1, 6), d.from(1, 8)
		for at := range states {
			for _, move := range []int64{-1, own, own + 1, math.MaxInt64, math.MinInt64} {
				p := d.player(own, other, states)
				p.Moves[at] = move
				is(t, "ValidPlayer of "+show(p, own, other), show(impl.ValidPlayer(p, own, other)), "false")
			}
			p := d.player(own, other, states)
			p.Moves[at] = own - 1
			is(t, "ValidPlayer of "+show(p, own, other), show(impl.ValidPlayer(p, own, other)), "true")
		}
		for at := range states * other {
			for _, next := range []int64{-1, states, states + 1, math.MaxInt64, math.MinInt64} {
				p := d.player(own, other, states)
				p.Next[at] = next
				is(t, "ValidPlayer of "+show(p, own, other), show(impl.ValidPlayer(p, own, other)), "false")
			}
			p := d.player(own, other, states)
			p.Next[at] = states - 1
			is(t, "ValidPlayer of "+show(p, own, other), show(impl.ValidPlayer(p, own, other)), "true")
		}
		p := d.player(own, other, states)
		p.Next = append(p.Next, 0)
		is(t, "ValidPlayer of one Next more", show(impl.ValidPlayer(p, own, other)), "false")
		p.Next = p.Next[:states*other-1]
		is(t, "ValidPlayer of one Next less", show(impl.ValidPlayer(p, own, other)), "false")
	}
}

// checkMachines compares rounds, their rings and the gains of these.
func checkMachines(t *testing.T, g impl.Game, a, b impl.Player, rounds int64) {
	t.Helper()
	what := " of " + show(g, a, b)
	cells, _ := playReference(g, a, b, int(rounds))
	is(t, "PlayMachines"+what, show(impl.PlayMachines(g, a, b, rounds)), show(cells, true))
	first, long, gainsA, gainsB := roundReference(g, a, b)
	is(t, "RoundOf"+what, show(impl.RoundOf(g, a, b)), show(first, long, true))
	is(t, "MeanGains"+what, show(impl.MeanGains(g, a, b)), show(gainsA, gainsB, long, true))
}

func TestMachinesPlayRoundAfterRound(t *testing.T) {
	d := dice(35)
	for _, g := range someGames() {
		for range 3 {
			a := d.player(g.Rows, g.Columns, d.from(1, impl.MaxMachine))
			b := d.player(g.Columns, g.Rows, d.from(1, impl.MaxMachine))
			checkMachines(t, g, a, b, d.from(0, 100))
		}
		one, another := d.player(g.Rows, g.Columns, 1), d.player(g.Columns, g.Rows, 1)
		checkMachines(t, g, one, another, d.from(0, 100))
	}
}

// counters are two machines of MaxMachine states: the second one counts, and
// the first one counts how often the second one has come around.
func counters() (impl.Player, impl.Player) {
	var a, b impl.Player
	for state := range int64(impl.MaxMachine) {
		a.Moves, b.Moves = append(a.Moves, state/7), append(b.Moves, state/7)
		a.Next = append(a.Next, state, (state+1)%8)
		b.Next = append(b.Next, (state+1)%8, (state+1)%8)
	}
	return a, b
}

func TestRoundsOfGreatestMachines(t *testing.T) {
	d := dice(36)
	g := d.game(2, 2, impl.MaxGain)
	a, b := counters()
	is(t, "RoundOf all states", show(impl.RoundOf(g, a, b)), "0 64 true")
	checkMachines(t, g, a, b, 200)
	// Both stop in their last states, to which no other ones come back.
	a.Next[15], b.Next[15] = 7, 7
	is(t, "RoundOf the last states", show(impl.RoundOf(g, a, b)), "63 1 true")
	is(t, "MeanGains of the last states", show(impl.MeanGains(g, a, b)), show(g.A[3], g.B[3], int64(1), true))
	checkMachines(t, g, a, b, 200)
	// Now the last states are followed by ones in the middle.
	a.Next[15], b.Next[15] = 4, 0
	checkMachines(t, g, a, b, 200)
	first, long, _ := impl.RoundOf(g, a, b)
	is(t, "RoundOf the last half", show(first, long), "32 32")
}

func TestGainsOfRingsHaveNoLimit(t *testing.T) {
	a, b := counters()
	is(t, "MeanGains of greatest gains", show(impl.MeanGains(equalGame(2, 2, impl.MaxGain), a, b)), "64000 64000 64 true")
	is(t, "MeanGains of least gains", show(impl.MeanGains(equalGame(2, 2, -impl.MaxGain), a, b)), "-64000 -64000 64 true")
}

func TestPlayMachinesHasALimitOfRounds(t *testing.T) {
	a, b := counters()
	g := dilemma()
	cells, _ := playReference(g, a, b, impl.MaxRounds)
	is(t, "PlayMachines of no rounds", show(impl.PlayMachines(g, a, b, 0)), "[] true")
	is(t, "PlayMachines of one round", show(impl.PlayMachines(g, a, b, 1)), "[0] true")
	is(t, "PlayMachines of 1000 rounds", show(impl.PlayMachines(g, a, b, 1000)), show(cells, true))
	for _, rounds := range []int64{-1, 1001, 1 << 32, math.MaxInt64, math.MinInt64} {
		is(t, "PlayMachines of "+show(rounds), show(impl.PlayMachines(g, a, b, rounds)), "[] false")
	}
}

// checkUnfit asks all three functions for players that do not fit the game.
func checkUnfit(t *testing.T, g impl.Game, a, b impl.Player) {
	t.Helper()
	what := " of " + show(g, a, b)
	is(t, "PlayMachines"+what, show(impl.PlayMachines(g, a, b, 3)), "[] false")
	is(t, "PlayMachines of no rounds"+what, show(impl.PlayMachines(g, a, b, 0)), "[] false")
	is(t, "RoundOf"+what, show(impl.RoundOf(g, a, b)), "0 0 false")
	is(t, "MeanGains"+what, show(impl.MeanGains(g, a, b)), "0 0 0 false")
}

func TestMachinesMustFitTheGame(t *testing.T) {
	d := dice(37)
	g := d.game(2, 3, 9)
	a, b := d.player(2, 3, 4), d.player(3, 2, 5)
	checkMachines(t, g, a, b, 10)
	for _, wrong := range []impl.Player{
		{},
		b, // the other one's
		d.player(2, 2, 4),
		d.player(2, 4, 3),
		{Moves: []int64{2}, Next: []int64{0, 0, 0}},
		{Moves: []int64{-1}, Next: []int64{0, 0, 0}},
		{Moves: []int64{0}, Next: []int64{0, 0, 1}},
		{Moves: []int64{0}, Next: []int64{0, -1, 0}},
		{Moves: []int64{0}, Next: []int64{0, 0}},
		{Moves: []int64{0}},
		{Moves: make([]int64, 9), Next: make([]int64, 27)},
	} {
		checkUnfit(t, g, wrong, b)
	}
	for _, wrong := range []impl.Player{
		{},
		a,
		d.player(3, 3, 4),
		d.player(3, 4, 2),
		{Moves: []int64{3}, Next: []int64{0, 0}},
		{Moves: []int64{-1}, Next: []int64{0, 0}},
		{Moves: []int64{0}, Next: []int64{0, 1}},
		{Moves: []int64{0}, Next: []int64{-1, 0}},
		{Moves: []int64{0}, Next: []int64{0}},
		{Moves: []int64{0}},
		{Moves: make([]int64, 9), Next: make([]int64, 18)},
	} {
		checkUnfit(t, g, a, wrong)
	}
	checkUnfit(t, g, b, a)
	// A state that never comes must be one, too.
	a = impl.Player{Moves: []int64{0, 5}, Next: []int64{0, 0, 0, 0, 0, 0}}
	checkUnfit(t, g, a, b)
}

func TestLearnRowsCountsChoices(t *testing.T) {
	d := dice(38)
	for _, g := range someGames() {
		rounds := d.from(1, 60)
		rows, columns := learnReference(g, rounds)
		is(t, "LearnRows of "+show(g, rounds), show(impl.LearnRows(g, rounds)), show(rows, columns, true))
	}
	for _, g := range smallGames() {
		rows, columns := learnReference(g, 9)
		is(t, "LearnRows of "+show(g), show(impl.LearnRows(g, 9)), show(rows, columns, true))
	}
}

func TestLearnRowsHasALimitOfRounds(t *testing.T) {
	g := dice(39)
	game := g.game(6, 6, impl.MaxGain)
	for _, rounds := range []int64{1, 2, 999, 1000} {
		rows, columns := learnReference(game, rounds)
		is(t, "LearnRows of "+show(rounds), show(impl.LearnRows(game, rounds)), show(rows, columns, true))
	}
	is(t, "LearnRows of one round", show(impl.LearnRows(dilemma(), 1)), "[1 0] [1 0] true")
	is(t, "LearnRows of two rounds", show(impl.LearnRows(dilemma(), 2)), "[1 1] [1 1] true")
	is(t, "LearnRows of equal gains", show(impl.LearnRows(equalGame(3, 2, -4), 1000)), "[1000 0 0] [1000 0] true")
	is(t, "LearnRows of one cell", show(impl.LearnRows(equalGame(1, 1, 1000), 1000)), "[1000] [1000] true")
	for _, rounds := range []int64{0, -1, 1001, 1 << 32, math.MaxInt64, math.MinInt64} {
		is(t, "LearnRows of "+show(rounds), show(impl.LearnRows(dilemma(), rounds)), "[] [] false")
	}
}
