package tests

import (
	"math"
	"testing"

	"loop.example/g01365/impl"
)

func checkTolls(t *testing.T, c impl.Crowd) bool {
	t.Helper()
	tolls := tollsReference(c)
	is(t, "TollsOf "+show(c), show(impl.TollsOf(c)), showIfCrowd(c, tolls))
	return showIfCrowd(c, tolls) != noCrowd
}

func TestTollsAreWhatOneMoreCostsAll(t *testing.T) {
	fine, high := 0, 0
	for _, c := range append(someCrowds(), smallCrowds()...) {
		if checkTolls(t, c) {
			fine++
		} else {
			high++
		}
	}
	if fine < 500 || high < 30 {
		t.Errorf("%d crowds have tolls, and %d would have too high ones", fine, high)
	}
}

// TestTollsMakeTotalsPotentials has the least total at rest where there are tolls.
func TestTollsMakeTotalsPotentials(t *testing.T) {
	d := dice(341)
	for _, c := range append(someCrowds(), smallCrowds()...) {
		tolled, ok := impl.TollsOf(c)
		if !ok {
			continue
		}
		for range 4 {
			choices := d.choices(c)
			total, _ := impl.TotalOf(c, choices)
			is(t, "CrowdPotential of tolls of "+show(c, choices), show(impl.CrowdPotential(tolled, choices)), show(total, true))
		}
		if best, _, ok := impl.LeastTotal(c); ok && numberOfChoices(c) <= 700 {
			is(t, "IsRest of tolls of "+show(c, best), show(impl.IsRest(tolled, best)), "true true")
		}
	}
}

func TestTollsAtTheEdges(t *testing.T) {
	for _, e := range []struct {
		c    impl.Crowd
		want []int64 // costs, or nil
	}{
		{twoRoads(), []int64{1, 3, 1, 3}},
		{steadyRoad(4), []int64{1, 3, 5, 7, 4, 4, 4, 4}},
		{equalRoads(1, 1, 9), []int64{9}}, // a crowd of one pays no toll
		{equalRoads(1, 2, -impl.MaxToll), []int64{-impl.MaxToll, -impl.MaxToll}},
		{equalRoads(8, 2, 0), make([]int64, 16)},
		{equalRoads(8, 2, impl.MaxToll), copies[int64](impl.MaxToll, 16)},
		{equalRoads(8, 8, -impl.MaxToll), copies[int64](-impl.MaxToll, 64)},
		{crowdOf([]int64{1}, []int64{5, 2, 1}), []int64{5, -1, -1}}, // below 0, where more users pay less
		// Just as much as a cost can be, and one more.
		{crowdOf([]int64{1}, []int64{0, 50000}), []int64{0, 100000}},
		{crowdOf([]int64{1}, []int64{-1, 50000}), nil},
		{crowdOf([]int64{1}, []int64{0, 50001}), nil},
		{crowdOf([]int64{1}, []int64{0, -50000}), []int64{0, -100000}},
		{crowdOf([]int64{1}, []int64{1, -50000}), nil},
		{crowdOf([]int64{1}, []int64{0, -50001}), nil},
		{crowdOf([]int64{1, 2}, []int64{0, 0}, []int64{100000, 100000}), []int64{0, 0, 100000, 100000}},
		{crowdOf([]int64{1, 2}, []int64{0, 0}, []int64{99999, 100000}), nil}, // 100001
		{crowdOf([]int64{1, 2}, []int64{0, 0, 0, 0, 0, 0, 0, 12500}, copies[int64](0, 8)), []int64{0, 0, 0, 0, 0, 0, 0, 100000, 0, 0, 0, 0, 0, 0, 0, 0}},
		{crowdOf([]int64{1, 2}, []int64{0, 0, 0, 0, 0, 0, 0, 12501}, copies[int64](0, 8)), nil},
		{crowdOf([]int64{1}, []int64{0, 0, 0, 0, 0, 0, 100000, 100000}), nil},
		{crowdOf([]int64{1}, []int64{-impl.MaxToll, impl.MaxToll}), nil},
	} {
		want := noCrowd
		if e.want != nil {
			want = show(impl.Crowd{Users: e.c.Users, Roads: e.c.Roads, Ways: e.c.Ways, Costs: e.want}, true)
		}
		is(t, "TollsOf "+show(e.c), show(impl.TollsOf(e.c)), want)
		checkTolls(t, e.c)
	}
}

func checkDearer(t *testing.T, c impl.Crowd, by []int64) {
	t.Helper()
	is(t, "MoreCosts of "+show(c, by), show(impl.MoreCosts(c, by)), showIfCrowd(c, dearerReference(c, by)))
}

func TestMoreCostsAddsToEachRoad(t *testing.T) {
	d := dice(342)
	for _, c := range append(someCrowds(), smallCrowds()...) {
		checkDearer(t, c, make([]int64, c.Roads))
		checkDearer(t, c, d.integers(c.Roads, -9, 9))
		checkDearer(t, c, d.integers(c.Roads, -impl.MaxToll, impl.MaxToll))
		checkDearer(t, c, copies[int64](impl.MaxToll, int(c.Roads)))
		checkDearer(t, c, copies[int64](-impl.MaxToll, int(c.Roads)))
		// What is added can be taken away.
		by := d.integers(c.Roads, -1000, 1000)
		if more, ok := impl.MoreCosts(c, by); ok {
			for road := range by {
				by[road] = -by[road]
			}
			is(t, "MoreCosts of "+show(more, by), show(impl.MoreCosts(more, by)), show(c, true))
		}
	}
}

func TestMoreCostsAtTheEdges(t *testing.T) {
	for _, e := range []struct {
		c    impl.Crowd
		by   []int64
		want []int64 // costs, or nil
	}{
		{twoRoads(), []int64{0, 5}, []int64{1, 2, 6, 7}},
		{twoRoads(), []int64{-5, 0}, []int64{-4, -3, 1, 2}},
		{twoRoads(), []int64{99998, -100000}, []int64{99999, 100000, -99999, -99998}},
		{twoRoads(), []int64{99999, 0}, nil}, // 100001
		{twoRoads(), []int64{0, 100000}, nil},
		{equalRoads(2, 2, 0), []int64{impl.MaxToll, -impl.MaxToll}, []int64{100000, 100000, -100000, -100000}},
		{equalRoads(2, 2, -impl.MaxToll), []int64{impl.MaxToll, 0}, []int64{0, 0, -100000, -100000}},
		{equalRoads(2, 2, -impl.MaxToll), []int64{-1, 0}, nil},
		{equalRoads(2, 2, impl.MaxToll), []int64{-impl.MaxToll, 0}, []int64{0, 0, 100000, 100000}},
		{equalRoads(2, 2, impl.MaxToll), []int64{0, 1}, nil},
		{equalRoads(1, 1, -1), []int64{1}, []int64{0}},
		{equalRoads(8, 8, 3), copies[int64](4, 8), copies[int64](7, 64)},
		// As many as there are roads, whatever the number of users or of ways.
		{crowdOf([]int64{1, 2, 3}, []int64{1}, []int64{2}), []int64{10, 20}, []int64{11, 22}},
		{crowdOf([]int64{1, 2, 3}, []int64{1}, []int64{2}), []int64{10, 20, 30}, nil},
		{crowdOf([]int64{1, 2, 3}, []int64{1}, []int64{2}), []int64{10}, nil},
		{crowdOf([]int64{1}, []int64{1, 2, 3}), []int64{10}, []int64{11, 12, 13}},
		{crowdOf([]int64{1}, []int64{1, 2, 3}), []int64{10, 20, 30}, nil},
		{twoRoads(), nil, nil},
		{twoRoads(), []int64{1, 1, 1}, nil},
	} {
		want := noCrowd
		if e.want != nil {
			want = show(impl.Crowd{Users: e.c.Users, Roads: e.c.Roads, Ways: e.c.Ways, Costs: e.want}, true)
		}
		is(t, "MoreCosts of "+show(e.c, e.by), show(impl.MoreCosts(e.c, e.by)), want)
	}
}

func TestAmountsHaveLimits(t *testing.T) {
	// Costs that stay valid, whichever of these is added.
	for _, cost := range []int64{0, -impl.MaxToll, impl.MaxToll} {
		c := equalRoads(3, 3, cost)
		for at := range c.Roads {
			for _, amount := range append(farNumbers(), -impl.MaxToll, -impl.MaxToll-1, impl.MaxToll, impl.MaxToll+1, -2*impl.MaxToll, 2*impl.MaxToll, 1, -1) {
				by := changed(make([]int64, 3), at, amount)
				isFine := amount >= -100000 && amount <= 100000 && cost+amount >= -100000 && cost+amount <= 100000
				more, ok := impl.MoreCosts(c, by)
				is(t, "MoreCosts of "+show(c, by), show(ok), show(isFine))
				if isFine {
					checkDearer(t, c, by)
				} else {
					is(t, "MoreCosts of "+show(c, by), show(more, ok), noCrowd)
				}
			}
		}
	}
	// Amounts for roads that no crowd has.
	for _, roads := range []int64{0, -1, 9, 1 << 32, math.MinInt64} {
		c := impl.Crowd{Users: 1, Roads: roads, Ways: []int64{1}, Costs: make([]int64, min(max(roads, 0), 9))}
		is(t, "MoreCosts of "+show(c), show(impl.MoreCosts(c, make([]int64, min(max(roads, 0), 9)))), noCrowd)
	}
}
