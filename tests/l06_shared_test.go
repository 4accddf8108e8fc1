package tests

import (
	"testing"

	"loop.example/g01365/impl"
)

// totalAtRest returns what all pay behind the steps from the first way.
func totalAtRest(c impl.Crowd) int64 {
	rest, _ := restReference(c, make([]int64, c.Users))
	return sum(costsReference(c, rest))
}

func TestAnyNumberOfWorkersFindsTheSameRests(t *testing.T) {
	d := dice(351)
	for n := range 9 {
		var list []impl.Crowd
		var want []int64
		for range n {
			c := d.crowd(d.from(1, 8), d.from(1, 8), d.from(1, 8), -99, 99)
			list, want = append(list, c), append(want, totalAtRest(c))
		}
		for workers := int64(1); workers <= impl.MaxWorkers; workers++ {
			for range 5 {
				is(t, "CrowdsShared of "+show(list, workers), show(impl.CrowdsShared(list, workers)), show(want, true))
			}
		}
	}
	for n, c := range append(someCrowds(), smallCrowds()...) {
		is(t, "CrowdsShared of "+show(c), show(impl.CrowdsShared([]impl.Crowd{c, c}, int64(n%8+1))), show(copies(totalAtRest(c), 2), true))
	}
	is(t, "CrowdsShared of none", show(impl.CrowdsShared(nil, 1)), "[] true")
	is(t, "CrowdsShared of others", show(impl.CrowdsShared([]impl.Crowd{twoRoads(), steadyRoad(2), equalRoads(8, 8, 0), twoRoads(), equalRoads(1, 1, -4)}, 8)), "[2 4 0 2 -4] true")
}

func TestCrowdsSharedHasLimits(t *testing.T) {
	is(t, "CrowdsShared of 8", show(impl.CrowdsShared(copies(twoRoads(), 8), 8)), show(copies[int64](2, 8), true))
	is(t, "CrowdsShared of 9", show(impl.CrowdsShared(copies(twoRoads(), 9), 8)), "[] false")
	is(t, "CrowdsShared of 500", show(impl.CrowdsShared(copies(twoRoads(), 500), 1)), "[] false")
	for _, workers := range append(farNumbers(), 0, -1, 9, 1<<32+1) {
		is(t, "CrowdsShared by "+show(workers), show(impl.CrowdsShared([]impl.Crowd{twoRoads()}, workers)), "[] false")
		is(t, "CrowdsShared of none by "+show(workers), show(impl.CrowdsShared(nil, workers)), "[] false")
	}
	// There is no limit on the number of choices.
	d := dice(352)
	for range 20 {
		c := d.crowd(8, 8, 8, -9, 9)
		is(t, "CrowdsShared of "+show(c), show(impl.CrowdsShared([]impl.Crowd{c}, 8)), show([]int64{totalAtRest(c)}, true))
	}
}

func TestCrowdsSharedNeedsValidCrowds(t *testing.T) {
	for _, wrong := range wrongCrowds() {
		for at := range 5 {
			list := copies(twoRoads(), 5)
			list[at] = wrong
			is(t, "CrowdsShared with "+show(wrong), show(impl.CrowdsShared(list, int64(at+1))), "[] false")
		}
		is(t, "CrowdsShared of "+show(wrong), show(impl.CrowdsShared([]impl.Crowd{wrong}, 8)), "[] false")
	}
}

func TestWorkersEndWithCrowdsShared(t *testing.T) {
	testWorkersEnd(t, func() {
		impl.CrowdsShared(copies(twoRoads(), 8), 8)
		impl.CrowdsShared(copies(impl.Crowd{}, 8), 8)
		impl.CrowdsShared(nil, 8)
		impl.CrowdsShared(copies(twoRoads(), 9), 8)
	})
}
