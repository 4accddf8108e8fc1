package tests

import (
	"math"
	"runtime"
	"testing"
	"time"

	"loop.example/g01365/impl"
)

// equilibriaOf counts the equilibria of games one after another.
func equilibriaOf(games []impl.Game) []int64 {
	counts := make([]int64, len(games))
	for i, g := range games {
		counts[i] = int64(len(pureReference(g)))
	}
	return counts
}

func TestAnyNumberOfWorkersFindsTheSame(t *testing.T) {
	d := dice(41)
	for n := range 17 {
		var games []impl.Game
		for range n {
			games = append(games, d.game(d.from(1, 6), d.from(1, 6), 2))
		}
		want := show(equilibriaOf(games), true)
		for workers := int64(1); workers <= impl.MaxWorkers; workers++ {
			for range 5 {
				is(t, "GamesShared", show(impl.GamesShared(games, workers)), want)
			}
		}
	}
	is(t, "GamesShared of none", show(impl.GamesShared(nil, 1)), "[] true")
	is(t, "GamesShared of the same", show(impl.GamesShared([]impl.Game{dilemma(), dilemma(), pennies(), equalGame(6, 6, 0)}, 8)), "[1 1 0 36] true")
}

func TestGamesSharedHasLimits(t *testing.T) {
	is(t, "GamesShared of 16 games", show(impl.GamesShared(copies(dilemma(), 16), 8)), show(copies[int64](1, 16), true))
	is(t, "GamesShared of 17 games", show(impl.GamesShared(copies(dilemma(), 17), 8)), "[] false")
	is(t, "GamesShared of 500 games", show(impl.GamesShared(copies(dilemma(), 500), 1)), "[] false")
	for _, workers := range []int64{0, -1, 9, 1 << 32, 1<<32 + 1, math.MaxInt64, math.MinInt64} {
		is(t, "GamesShared by "+show(workers), show(impl.GamesShared([]impl.Game{dilemma()}, workers)), "[] false")
		is(t, "GamesShared of none by "+show(workers), show(impl.GamesShared(nil, workers)), "[] false")
	}
}

func TestGamesSharedNeedsValidGames(t *testing.T) {
	for _, wrong := range wrongGames() {
		for at := range 5 {
			games := copies(dilemma(), 5)
			games[at] = wrong
			is(t, "GamesShared with "+show(wrong), show(impl.GamesShared(games, int64(at+1))), "[] false")
		}
		is(t, "GamesShared of "+show(wrong), show(impl.GamesShared([]impl.Game{wrong}, 8)), "[] false")
	}
}

// testWorkersEnd lets no worker of a call stay behind.
func testWorkersEnd(t *testing.T, call func()) {
	t.Helper()
	before := runtime.NumGoroutine()
	for range 200 {
		call()
	}
	for range 100 {
		if runtime.NumGoroutine() <= before {
			return
		}
		time.Sleep(10 * time.Millisecond)
	}
	t.Errorf("%d goroutines before the calls, %d behind them", before, runtime.NumGoroutine())
}

// TestWorkersEndWithTheCall has calls that succeed, and calls that fail.
func TestWorkersEndWithTheCall(t *testing.T) {
	testWorkersEnd(t, func() {
		impl.GamesShared(copies(dilemma(), 16), 8)
		impl.GamesShared(copies(impl.Game{}, 16), 8)
		impl.GamesShared(nil, 8)
		impl.GamesShared(copies(dilemma(), 17), 8)
	})
}
