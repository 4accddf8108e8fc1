package tests

import (
	"slices"
	"testing"

	"loop.example/g01365/impl"
)

// checkBetter compares what is told of a step from choices, and tells whether there
// is one. The potential falls by what the user who moves pays less.
func checkBetter(t *testing.T, c impl.Crowd, choices []int64) bool {
	t.Helper()
	what := " of " + show(c, choices)
	next, isMoved := betterReference(c, choices)
	is(t, "IsRest"+what, show(impl.IsRest(c, choices)), show(!isMoved, true))
	is(t, "BetterChoice"+what, show(impl.BetterChoice(c, choices)), show(next, isMoved))
	if !isMoved {
		return false
	}
	user := slices.IndexFunc(numbersTo(c.Users), func(user int64) bool { return next[user] != choices[user] })
	before, _ := impl.CostsOf(c, choices)
	behind, _ := impl.CostsOf(c, next)
	high, _ := impl.CrowdPotential(c, choices)
	low, _ := impl.CrowdPotential(c, next)
	is(t, "the potential"+what, show(high-low, high > low), show(before[user]-behind[user], true))
	return true
}

func TestBetterChoicesLetPotentialsFall(t *testing.T) {
	d := dice(321)
	moved := 0
	for _, c := range someCrowds() {
		for range 10 {
			if checkBetter(t, c, d.choices(c)) {
				moved++
			}
		}
	}
	for _, c := range smallCrowds() {
		for _, choices := range choicesOf(c) {
			if checkBetter(t, c, choices) {
				moved++
			}
		}
	}
	if moved < 2000 {
		t.Errorf("only %d times there is a better choice", moved)
	}
}

// checkRest compares to what rest choices come, and after how many steps.
func checkRest(t *testing.T, c impl.Crowd, choices []int64) int64 {
	t.Helper()
	rest, steps := restReference(c, choices)
	is(t, "RestOf "+show(c, choices), show(impl.RestOf(c, choices)), show(rest, steps, true))
	is(t, "IsRest of "+show(c, rest), show(impl.IsRest(c, rest)), "true true")
	// Choices at rest stay, and nothing is done.
	is(t, "RestOf "+show(c, rest), show(impl.RestOf(c, rest)), show(rest, int64(0), true))
	is(t, "BetterChoice of "+show(c, rest), show(impl.BetterChoice(c, rest)), "[] false")
	return steps
}

func TestCrowdsComeToRest(t *testing.T) {
	d := dice(322)
	most := int64(0)
	for _, c := range someCrowds() {
		most = max(most, checkRest(t, c, make([]int64, c.Users)))
		for range 4 {
			most = max(most, checkRest(t, c, d.choices(c)))
		}
	}
	for range 500 {
		c := d.crowd(8, 8, 8, -impl.MaxToll, impl.MaxToll)
		most = max(most, checkRest(t, c, d.choices(c)))
	}
	for _, c := range smallCrowds() {
		for _, choices := range choicesOf(c) {
			checkRest(t, c, choices)
		}
	}
	if most < 12 {
		t.Errorf("no crowd needs more than %d steps", most)
	}
}

// TestRestIsBehindBetterChoices takes better choices one after another.
func TestRestIsBehindBetterChoices(t *testing.T) {
	d := dice(323)
	for range 300 {
		c := d.crowd(d.from(4, 8), d.from(2, 8), d.from(2, 8), -50, 50)
		choices := d.choices(c)
		rest, steps, _ := impl.RestOf(c, choices)
		for step := range steps {
			next, ok := impl.BetterChoice(c, choices)
			is(t, "BetterChoice of "+show(c, choices), show(ok), "true")
			is(t, "RestOf "+show(c, next), show(impl.RestOf(c, next)), show(rest, steps-step-1, true))
			choices = next
		}
		is(t, "the last choices", show(choices), show(rest))
	}
}

func TestRestAtTheEdges(t *testing.T) {
	ties := crowdOf([]int64{8, 4, 2, 1}, []int64{3, 3}, []int64{2, 2}, []int64{2, 2}, []int64{5, 5})
	for _, e := range []struct {
		c            impl.Crowd
		choices      []int64
		better, rest string
	}{
		{twoRoads(), []int64{0, 0}, "[1 0] true", "[1 0] 1 true"}, // both would rather, and the first one does
		{twoRoads(), []int64{1, 1}, "[0 1] true", "[0 1] 1 true"},
		{twoRoads(), []int64{0, 1}, "[] false", "[0 1] 0 true"}, // at rest
		{twoRoads(), []int64{1, 0}, "[] false", "[1 0] 0 true"},
		// Who would pay as much stays.
		{steadyRoad(2), []int64{0, 0}, "[] false", "[0 0] 0 true"},
		{steadyRoad(2), []int64{1, 1}, "[0 1] true", "[0 1] 1 true"},
		{steadyRoad(2), []int64{0, 1}, "[] false", "[0 1] 0 true"},
		{steadyRoad(8), copies[int64](1, 8), "[0 1 1 1 1 1 1 1] true", "[0 0 0 0 0 0 0 1] 7 true"},
		// A crowd of one takes the first one of the cheapest ways.
		{equalRoads(1, 8, 4), []int64{5}, "[] false", "[5] 0 true"},
		{crowdOf([]int64{1, 2, 4, 7}, []int64{3}, []int64{-1}, []int64{-1}), []int64{0}, "[1] true", "[1] 1 true"},
		{crowdOf([]int64{1, 2, 6, 7}, []int64{3}, []int64{-1}, []int64{-1}), []int64{0}, "[2] true", "[2] 1 true"},
		{crowdOf([]int64{1}, []int64{3}), []int64{0}, "[] false", "[0] 0 true"}, // one way
		// Several ways are cheapest: the first one is taken, whichever had been before.
		{ties, []int64{3, 3}, "[1 3] true", "[1 1] 2 true"},
		{ties, []int64{0, 0}, "[1 0] true", "[1 1] 2 true"},
		{ties, []int64{2, 0}, "[2 1] true", "[2 1] 1 true"}, // the first user stays: 2 is as cheap as 1
		{ties, []int64{2, 2}, "[] false", "[2 2] 0 true"},
		// The first one who would rather is not the one who pays most.
		{crowdOf([]int64{1, 2, 4}, []int64{2, 2, 2}, []int64{9, 9, 9}, []int64{1, 8, 8}), []int64{0, 1, 1}, "[2 1 1] true", "[2 0 0] 3 true"},
		{crowdOf([]int64{1, 2, 4}, []int64{1, 2, 2}, []int64{9, 9, 9}, []int64{1, 8, 8}), []int64{0, 1, 1}, "[0 2 1] true", "[0 2 0] 2 true"},
		// Roads that cost less with more users.
		{crowdOf([]int64{1, 2}, []int64{5, 1}, []int64{4, 3}), []int64{0, 1}, "[1 1] true", "[1 1] 1 true"},
		{crowdOf([]int64{1, 2}, []int64{5, 1}, []int64{4, 3}), []int64{1, 1}, "[] false", "[1 1] 0 true"},
		{crowdOf([]int64{1, 2}, []int64{5, 1}, []int64{4, 3}), []int64{0, 0}, "[] false", "[0 0] 0 true"},
		// The same way twice.
		{impl.Crowd{Users: 2, Roads: 1, Ways: []int64{1, 1}, Costs: []int64{1, 2}}, []int64{1, 0}, "[] false", "[1 0] 0 true"},
		// A way with one road more than another one, which costs nothing, or less.
		{crowdOf([]int64{3, 1}, []int64{1, 2}, []int64{0, 0}), []int64{0, 1}, "[] false", "[0 1] 0 true"},
		{crowdOf([]int64{3, 1}, []int64{1, 2}, []int64{0, -1}), []int64{0, 1}, "[0 0] true", "[0 0] 1 true"},
		{equalRoads(8, 8, 0), []int64{0, 1, 2, 3, 4, 5, 6, 7}, "[] false", "[0 1 2 3 4 5 6 7] 0 true"},
	} {
		what := " of " + show(e.c, e.choices)
		is(t, "BetterChoice"+what, show(impl.BetterChoice(e.c, e.choices)), e.better)
		is(t, "IsRest"+what, show(impl.IsRest(e.c, e.choices)), show(e.better == "[] false", true))
		is(t, "RestOf"+what, show(impl.RestOf(e.c, e.choices)), e.rest)
		checkBetter(t, e.c, e.choices)
		checkRest(t, e.c, e.choices)
	}
}

// TestTheLeastPotentialIsAtRest has some rest for every crowd.
func TestTheLeastPotentialIsAtRest(t *testing.T) {
	for _, c := range append(fewChoices(someCrowds(), 300), smallCrowds()...) {
		var best []int64
		for _, choices := range choicesOf(c) {
			if best == nil || potentialReference(c, choices) < potentialReference(c, best) {
				best = choices
			}
		}
		is(t, "IsRest of "+show(c, best), show(impl.IsRest(c, best)), "true true")
	}
}
