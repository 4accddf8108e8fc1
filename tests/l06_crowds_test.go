package tests

import (
	"math"
	"slices"
	"testing"

	"loop.example/g01365/impl"
)

func TestValidCrowdHasLimits(t *testing.T) {
	for _, c := range append(someCrowds(), smallCrowds()...) {
		is(t, "ValidCrowd of "+show(c), show(impl.ValidCrowd(c)), "true")
	}
	for _, c := range wrongCrowds() {
		is(t, "ValidCrowd of "+show(c), show(impl.ValidCrowd(c)), "false")
	}
	for users := int64(-1); users <= 10; users++ {
		for roads := int64(-1); roads <= 10; roads++ {
			for ways := range 11 {
				for _, size := range []int64{0, 1, users*roads - 1, users * roads, users*roads + 1} {
					c := impl.Crowd{Users: users, Roads: roads, Ways: copies[int64](1, ways), Costs: make([]int64, max(size, 0))}
					want := users >= 1 && users <= 8 && roads >= 1 && roads <= 8 && ways >= 1 && ways <= 8 && size == users*roads
					is(t, "ValidCrowd of "+show(c), show(impl.ValidCrowd(c)), show(want))
				}
			}
		}
	}
}

func TestValidCrowdLooksAtEachNumber(t *testing.T) {
	for _, c := range []impl.Crowd{equalRoads(1, 1, 0), twoRoads(), equalRoads(3, 5, -7), equalRoads(8, 8, impl.MaxToll)} {
		power := int64(1)
		for range c.Roads {
			power *= 2
		}
		for at := range c.Ways {
			for _, way := range []int64{0, 1, -1, power - 1, power, power + 1, 2 * power, 255, 256, 1 << 32, math.MaxInt64, math.MinInt64} {
				other := copyOfCrowd(c)
				other.Ways[at] = way
				is(t, "ValidCrowd of "+show(other), show(impl.ValidCrowd(other)), show(way >= 1 && way < power))
			}
		}
		for at := range c.Costs {
			for _, cost := range []int64{0, 1, -1, 99999, 100000, 100001, -99999, -100000, -100001, 1 << 32, math.MaxInt64, math.MinInt64} {
				other := copyOfCrowd(c)
				other.Costs[at] = cost
				is(t, "ValidCrowd of "+show(other), show(impl.ValidCrowd(other)), show(cost >= -100000 && cost <= 100000))
			}
		}
	}
}

// changedCrowds differ from c, each in one place.
func changedCrowds(c impl.Crowd) []impl.Crowd {
	list := []impl.Crowd{
		{Users: c.Users + 1, Roads: c.Roads, Ways: c.Ways, Costs: c.Costs},
		{Users: c.Users, Roads: c.Roads - 1, Ways: c.Ways, Costs: c.Costs},
		{Users: c.Users, Roads: c.Roads, Ways: c.Ways[1:], Costs: c.Costs},
		{Users: c.Users, Roads: c.Roads, Ways: append(slices.Clone(c.Ways), 0), Costs: c.Costs},
		{Users: c.Users, Roads: c.Roads, Ways: c.Ways, Costs: c.Costs[:len(c.Costs)-1]},
		{Users: c.Users, Roads: c.Roads, Ways: c.Ways, Costs: append(slices.Clone(c.Costs), 0)},
		{Users: c.Users, Roads: c.Roads, Ways: c.Ways}, {Users: c.Users, Roads: c.Roads, Costs: c.Costs},
		{Users: c.Roads, Roads: c.Users, Ways: c.Ways, Costs: c.Costs}, {Users: c.Users, Roads: c.Roads, Ways: c.Costs, Costs: c.Ways}, {},
	}
	for at := range c.Ways {
		other := copyOfCrowd(c)
		other.Ways[at]++
		list = append(list, other)
	}
	for at := range c.Costs {
		other := copyOfCrowd(c)
		other.Costs[at] = -other.Costs[at] - 1
		list = append(list, other)
	}
	return list
}

func TestSameCrowdComparesAllNumbers(t *testing.T) {
	check := func(a, b impl.Crowd) {
		t.Helper()
		want := show(a) == show(b)
		is(t, "SameCrowd of "+show(a, b), show(impl.SameCrowd(a, b), impl.SameCrowd(b, a)), show(want, want))
	}
	list := append(append(someCrowds()[:80], wrongCrowds()[:80]...), smallCrowds()[:80]...)
	for i, a := range list {
		check(a, copyOfCrowd(a))
		for _, b := range list[i:] {
			check(a, b)
		}
	}
	// Whether they are valid or not.
	for _, c := range []impl.Crowd{twoRoads(), steadyRoad(8), equalRoads(5, 5, -3), {Users: -5, Roads: math.MinInt64, Ways: []int64{0, -1}, Costs: []int64{math.MaxInt64, 7, 7}}} {
		check(c, copyOfCrowd(c))
		for _, other := range changedCrowds(c) {
			check(c, other)
		}
	}
	is(t, "empty lists", show(impl.SameCrowd(impl.Crowd{}, impl.Crowd{Ways: []int64{}, Costs: []int64{}})), "true")
}

// checkChoices compares all that is told of choices.
func checkChoices(t *testing.T, c impl.Crowd, choices []int64) {
	t.Helper()
	what := " of " + show(c, choices)
	costs := costsReference(c, choices)
	is(t, "LoadsOf"+what, show(impl.LoadsOf(c, choices)), show(loadsReference(c, choices), true))
	is(t, "CostsOf"+what, show(impl.CostsOf(c, choices)), show(costs, true))
	is(t, "TotalOf"+what, show(impl.TotalOf(c, choices)), show(sum(costs), true))
	is(t, "CrowdPotential"+what, show(impl.CrowdPotential(c, choices)), show(potentialReference(c, choices), true))
}

func TestChoicesMakeLoadsAndCosts(t *testing.T) {
	d := dice(311)
	for _, c := range someCrowds() {
		for way := range c.Ways {
			checkChoices(t, c, copies(int64(way), int(c.Users)))
		}
		for range 10 {
			checkChoices(t, c, d.choices(c))
		}
	}
	for _, c := range smallCrowds() {
		for _, choices := range choicesOf(c) {
			checkChoices(t, c, choices)
		}
	}
}

// TestPotentialHasNoOrder lets users come in any order.
func TestPotentialHasNoOrder(t *testing.T) {
	d := dice(312)
	for _, c := range someCrowds() {
		choices := d.choices(c)
		potential, _ := impl.CrowdPotential(c, choices)
		total, _ := impl.TotalOf(c, choices)
		for range 5 {
			var turned []int64
			for _, user := range d.order(c.Users) {
				turned = append(turned, choices[user])
			}
			is(t, "CrowdPotential of "+show(c, turned), show(impl.CrowdPotential(c, turned)), show(potential, true))
			is(t, "TotalOf of "+show(c, turned), show(impl.TotalOf(c, turned)), show(total, true))
		}
	}
}

func TestChoicesAtTheEdges(t *testing.T) {
	most := equalRoads(8, 8, impl.MaxToll)
	most.Ways[3] = 255
	for _, e := range []struct {
		c                impl.Crowd
		choices          []int64
		loads, costs     string
		total, potential int64
	}{
		{twoRoads(), []int64{0, 0}, "[2 0]", "[2 2]", 4, 3},
		{twoRoads(), []int64{1, 0}, "[1 1]", "[1 1]", 2, 2}, // of the example
		{twoRoads(), []int64{1, 1}, "[0 2]", "[2 2]", 4, 3},
		// A crowd of one.
		{equalRoads(1, 1, 7), []int64{0}, "[1]", "[7]", 7, 7},
		{equalRoads(1, 1, 0), []int64{0}, "[1]", "[0]", 0, 0},
		{crowdOf([]int64{5, 2}, []int64{-3}, []int64{9}, []int64{1}), []int64{0}, "[1 0 1]", "[-2]", -2, -2},
		{crowdOf([]int64{5, 2}, []int64{-3}, []int64{9}, []int64{1}), []int64{1}, "[0 1 0]", "[9]", 9, 9},
		// Roads that cost nothing.
		{equalRoads(4, 3, 0), []int64{0, 1, 2, 0}, "[2 1 1]", "[0 0 0 0]", 0, 0},
		// Roads that nobody uses, of no way, too.
		{crowdOf([]int64{2, 2}, []int64{5, 5}, []int64{1, -4}, []int64{8, 8}), []int64{0, 1}, "[0 2 0]", "[-4 -4]", -8, -3},
		// Ways that share a road.
		{crowdOf([]int64{3, 6}, []int64{1, 10}, []int64{100, 1000}, []int64{2, 20}), []int64{0, 1}, "[1 2 1]", "[1001 1002]", 2003, 1103},
		{crowdOf([]int64{3, 6}, []int64{1, 10}, []int64{100, 1000}, []int64{2, 20}), []int64{1, 1}, "[0 2 2]", "[1020 1020]", 2040, 1122},
		// As much and as little as can be paid.
		{most, copies[int64](3, 8), "[8 8 8 8 8 8 8 8]", "[800000 800000 800000 800000 800000 800000 800000 800000]", 6400000, 6400000},
		{equalRoads(8, 1, -impl.MaxToll), make([]int64, 8), "[8]", "[-100000 -100000 -100000 -100000 -100000 -100000 -100000 -100000]", -800000, -800000},
	} {
		what := " of " + show(e.c, e.choices)
		is(t, "LoadsOf"+what, show(impl.LoadsOf(e.c, e.choices)), e.loads+" true")
		is(t, "CostsOf"+what, show(impl.CostsOf(e.c, e.choices)), e.costs+" true")
		is(t, "TotalOf"+what, show(impl.TotalOf(e.c, e.choices)), show(e.total, true))
		is(t, "CrowdPotential"+what, show(impl.CrowdPotential(e.c, e.choices)), show(e.potential, true))
		checkChoices(t, e.c, e.choices)
	}
}

func TestChoicesAreWaysOfAllUsers(t *testing.T) {
	for _, c := range []impl.Crowd{equalRoads(1, 1, 3), twoRoads(), steadyRoad(5), equalRoads(8, 8, 1), smallCrowds()[0]} {
		for _, wrong := range wrongChoices(c) {
			what := " of " + show(c, wrong)
			is(t, "LoadsOf"+what, show(impl.LoadsOf(c, wrong)), "[] false")
			is(t, "CostsOf"+what, show(impl.CostsOf(c, wrong)), "[] false")
			is(t, "TotalOf"+what, show(impl.TotalOf(c, wrong)), "0 false")
			is(t, "CrowdPotential"+what, show(impl.CrowdPotential(c, wrong)), "0 false")
			is(t, "IsRest"+what, show(impl.IsRest(c, wrong)), "false false")
			is(t, "BetterChoice"+what, show(impl.BetterChoice(c, wrong)), "[] false")
			is(t, "RestOf"+what, show(impl.RestOf(c, wrong)), "[] 0 false")
		}
	}
}
