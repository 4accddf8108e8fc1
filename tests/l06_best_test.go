package tests

import (
	"testing"

	"loop.example/g01365/impl"
)

// checkTotals compares the best choices and the worst rest of a crowd, and the
// price of rest. A crowd with too many choices has none.
func checkTotals(t *testing.T, c impl.Crowd) {
	t.Helper()
	best, worst, price := "[] 0 false", "[] 0 false", "0 0 false"
	if numberOfChoices(c) <= 4096 {
		choices, least := leastTotalReference(c)
		rest, most := worstRestReference(c)
		best, worst = show(choices, least, true), show(rest, most, true)
		if least >= 1 {
			over, under := lowest(most, least)
			price = show(over, under, true)
		}
	}
	is(t, "LeastTotal of "+show(c), show(impl.LeastTotal(c)), best)
	is(t, "WorstRest of "+show(c), show(impl.WorstRest(c)), worst)
	is(t, "PriceOfRest of "+show(c), show(impl.PriceOfRest(c)), price)
}

func TestTotalsAreTheLeastAndTheWorst(t *testing.T) {
	priced, high := 0, 0
	for _, c := range append(fewChoices(someCrowds(), 700), smallCrowds()...) {
		checkTotals(t, c)
		if over, under, ok := impl.PriceOfRest(c); ok {
			priced++
			if over > under {
				high++
			}
		}
	}
	d := dice(331)
	for range 300 {
		c := d.fullRoads(d.from(2, 4), d.from(2, 8), d.from(2, 4), d.from(5, 60), false)
		checkTotals(t, c)
	}
	if priced < 200 || high < 50 {
		t.Errorf("only %d crowds have a price, and %d one above 1", priced, high)
	}
}

func TestTotalsAtTheEdges(t *testing.T) {
	for _, e := range []struct {
		c                  impl.Crowd
		least, rest, price string
	}{
		{twoRoads(), "[0 1] 2", "[0 1] 2", "1 1 true"},
		// All use the first road or the last one is used by one: both are rests.
		{steadyRoad(2), "[0 1] 3", "[0 0] 4", "4 3 true"},
		{steadyRoad(4), "[0 0 1 1] 12", "[0 0 0 0] 16", "4 3 true"},
		{steadyRoad(8), "[0 0 0 0 1 1 1 1] 48", "[0 0 0 0 0 0 0 0] 64", "4 3 true"},
		{steadyRoad(3), "[0 0 1] 7", "[0 0 0] 9", "9 7 true"},
		// A crowd of one is at rest on the cheapest way.
		{equalRoads(1, 8, 5), "[0] 5", "[0] 5", "1 1 true"},
		{crowdOf([]int64{1, 2, 4}, []int64{9}, []int64{2}, []int64{2}), "[1] 2", "[1] 2", "1 1 true"},
		{equalRoads(1, 1, 0), "[0] 0", "[0] 0", "0 0 false"},
		// Several choices have the least total, and several rests the greatest one.
		{equalRoads(3, 2, 2), "[0 0 0] 6", "[0 0 0] 6", "1 1 true"},
		{crowdOf([]int64{1, 2}, []int64{1, 1, 5}, []int64{3, 3, 3}), "[0 0 1] 5", "[0 0 1] 5", "1 1 true"},
		{crowdOf([]int64{1, 2}, []int64{5, 1, 1}, []int64{5, 1, 1}), "[0 0 0] 3", "[0 0 0] 3", "1 1 true"},
		{crowdOf([]int64{1, 2}, []int64{5, 5, 1}, []int64{5, 5, 4}), "[0 0 0] 3", "[1 1 1] 12", "4 1 true"},
		// Two rests, of which the better one is the first one: the price is 2.
		{crowdOf([]int64{1, 2}, []int64{9, 2}, []int64{9, 4}), "[0 0] 4", "[1 1] 8", "2 1 true"},
		{crowdOf([]int64{2, 1}, []int64{9, 2}, []int64{9, 4}), "[1 1] 4", "[0 0] 8", "2 1 true"},
		// Totals that have a common factor.
		{crowdOf([]int64{1, 2}, []int64{9, 4}, []int64{9, 6}), "[0 0] 8", "[1 1] 12", "3 2 true"},
		{crowdOf([]int64{1, 2}, []int64{90000, 40000}, []int64{90000, 100000}), "[0 0] 80000", "[0 0] 80000", "1 1 true"},
		{crowdOf([]int64{1, 2}, []int64{100000, 40000}, []int64{100000, 100000}), "[0 0] 80000", "[1 1] 200000", "5 2 true"},
		// A least total of 1, of 0, and below 0.
		{crowdOf([]int64{1, 2}, []int64{1}, []int64{2}), "[0] 1", "[0] 1", "1 1 true"},
		{crowdOf([]int64{1, 2}, []int64{-1, 2}, []int64{0, 2}), "[0 1] -1", "[0 1] -1", "0 0 false"},
		{crowdOf([]int64{1, 2}, []int64{1, 2}, []int64{0, 3}), "[0 1] 1", "[0 1] 1", "1 1 true"},
		{crowdOf([]int64{1, 2}, []int64{-1, 2}, []int64{1, 2}), "[0 1] 0", "[0 1] 0", "0 0 false"},
		{crowdOf([]int64{1, 2}, []int64{3, -7}, []int64{3, 4}), "[0 0] -14", "[0 0] -14", "0 0 false"},
		{crowdOf([]int64{1, 2}, []int64{3, 0}, []int64{3, 2}), "[0 0] 0", "[1 1] 4", "0 0 false"},
		{equalRoads(4, 8, 0), "[0 0 0 0] 0", "[0 0 0 0] 0", "0 0 false"},
		{equalRoads(4, 8, -impl.MaxToll), "[0 0 0 0] -400000", "[0 0 0 0] -400000", "0 0 false"},
		{equalRoads(4, 8, impl.MaxToll), "[0 0 0 0] 400000", "[0 0 0 0] 400000", "1 1 true"},
		// The same way twice, and a way that leads over a road more.
		{impl.Crowd{Users: 2, Roads: 1, Ways: []int64{1, 1}, Costs: []int64{1, 2}}, "[0 0] 4", "[0 0] 4", "1 1 true"},
		{crowdOf([]int64{3, 1}, []int64{1, 2}, []int64{0, 0}), "[0 0] 4", "[0 0] 4", "1 1 true"},
		{crowdOf([]int64{3, 1}, []int64{1, 2}, []int64{1, 1}), "[1 1] 4", "[1 1] 4", "1 1 true"},
	} {
		is(t, "LeastTotal of "+show(e.c), show(impl.LeastTotal(e.c)), e.least+" true")
		is(t, "WorstRest of "+show(e.c), show(impl.WorstRest(e.c)), e.rest+" true")
		is(t, "PriceOfRest of "+show(e.c), show(impl.PriceOfRest(e.c)), e.price)
		checkTotals(t, e.c)
	}
}

// TestTotalsHaveALimit has 4096 choices, the numbers below, and the next ones
// above, for all numbers of users and ways.
func TestTotalsHaveALimit(t *testing.T) {
	mostUsers := []int64{0, 8, 8, 7, 6, 5, 4, 4, 4}
	for ways := int64(1); ways <= 8; ways++ {
		for users := int64(1); users <= 8; users++ {
			c := crowdOf(copies[int64](1, int(ways)), rising(users, 1))
			isFew := users <= mostUsers[ways]
			best, least, bestOK := impl.LeastTotal(c)
			rest, worst, restOK := impl.WorstRest(c)
			over, under, priceOK := impl.PriceOfRest(c)
			is(t, "totals of "+show(c), show(bestOK, restOK, priceOK), show(isFew, isFew, isFew))
			want := "[] 0 [] 0 0 0"
			if isFew {
				first := make([]int64, users)
				want = show(first, users*users, first, users*users, int64(1), int64(1))
			}
			is(t, "totals of "+show(c), show(best, least, rest, worst, over, under), want)
		}
	}
	checkTotals(t, steadyRoad(8))
	d := dice(332)
	for _, size := range [][2]int64{{4, 8}, {6, 4}, {5, 5}, {7, 3}} {
		checkTotals(t, d.crowd(size[0], 5, size[1], 1, 9))
	}
}

// TestTheBestRestIsWithinThePrice has no rest that costs more than it says, and
// one that costs no more than the least potential allows.
func TestTheBestRestIsWithinThePrice(t *testing.T) {
	d := dice(333)
	for range 200 {
		c := d.fullRoads(d.from(2, 4), d.from(2, 4), d.from(2, 4), 20, false)
		over, under, ok := impl.PriceOfRest(c)
		_, least, _ := impl.LeastTotal(c)
		if !ok {
			continue
		}
		for _, choices := range restsReference(c) {
			total, _ := impl.TotalOf(c, choices)
			is(t, "a rest of "+show(c, choices), show(total >= least, total*under <= over*least), "true true")
		}
	}
}
