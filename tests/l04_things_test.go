package tests

import (
	"math"
	"slices"
	"testing"

	"loop.example/g01365/impl"
)

func TestValidValuesHasLimits(t *testing.T) {
	for _, v := range append(someValues(), smallValues()...) {
		is(t, "ValidValues of "+show(v), show(impl.ValidValues(v)), "true")
	}
	for _, v := range wrongValues() {
		is(t, "ValidValues of "+show(v), show(impl.ValidValues(v)), "false")
	}
	for players := int64(-2); players <= 9; players++ {
		for n := int64(-2); n <= 11; n++ {
			for size := range int64(60) {
				v := impl.Values{Players: players, Things: n, Worths: make([]int64, size)}
				want := players >= 1 && players <= 6 && n >= 1 && n <= 8 && players*n == size
				is(t, "ValidValues of "+show(v), show(impl.ValidValues(v)), show(want))
			}
		}
	}
}

func TestValidValuesLooksAtEachWorth(t *testing.T) {
	for _, v := range []impl.Values{equalThings(1, 1, 3), equalThings(2, 8, 0), equalThings(6, 8, 1000)} {
		for at := range v.Worths {
			for _, worth := range []int64{0, 1, 999, 1000, 1001, -1, math.MaxInt64, math.MinInt64} {
				changed := impl.Values{Players: v.Players, Things: v.Things, Worths: slices.Clone(v.Worths)}
				changed.Worths[at] = worth
				is(t, "ValidValues of "+show(changed), show(impl.ValidValues(changed)), show(worth >= 0 && worth <= 1000))
			}
		}
	}
}

// numbers are those of values or of a cake.
type numbers struct {
	players, width int64
	worths         []int64
}

// testSameNumbers compares all of a list with one another, and some with numbers
// that differ from them in one place.
func testSameNumbers(t *testing.T, name string, list []numbers, isSame func(a, b numbers) bool) {
	t.Helper()
	show1 := func(n numbers) string { return show(n.players, n.width, n.worths) }
	check := func(a, b numbers, want bool) {
		t.Helper()
		is(t, name+" of "+show1(a)+" and "+show1(b), show(isSame(a, b), isSame(b, a)), show(want, want))
	}
	for i, a := range list {
		check(a, numbers{a.players, a.width, slices.Clone(a.worths)}, true)
		for _, b := range list[i+1:] {
			check(a, b, show1(a) == show1(b))
		}
	}
	for _, a := range []numbers{{2, 2, []int64{5, 3, 5, 4}}, {6, 8, copies[int64](3, 48)}, {-5, 77, []int64{7, math.MaxInt64}}} {
		check(a, numbers{a.players + 1, a.width, a.worths}, false)
		check(a, numbers{a.players, a.width - 1, a.worths}, false)
		check(a, numbers{a.width, a.players + 1, a.worths}, false)
		check(a, numbers{a.players, a.width, a.worths[1:]}, false)
		check(a, numbers{a.players, a.width, append(slices.Clone(a.worths), 0)}, false)
		check(a, numbers{a.players, a.width, nil}, false)
		for at := range a.worths {
			b := numbers{a.players, a.width, slices.Clone(a.worths)}
			b.worths[at]--
			check(a, b, false)
		}
	}
	check(numbers{}, numbers{worths: []int64{}}, true)
}

func TestSameValuesComparesAllIntegers(t *testing.T) {
	var list []numbers
	for _, v := range append(append(someValues()[:150], wrongValues()...), smallValues()[:100]...) {
		list = append(list, numbers{v.Players, v.Things, v.Worths})
	}
	testSameNumbers(t, "SameValues", list, func(a, b numbers) bool {
		return impl.SameValues(impl.Values{Players: a.players, Things: a.width, Worths: a.worths}, impl.Values{Players: b.players, Things: b.width, Worths: b.worths})
	})
}

// checkOwned compares all that is told of owners.
func checkOwned(t *testing.T, v impl.Values, owners []int64) {
	t.Helper()
	what := " of " + show(v, owners)
	is(t, "OwnWorths"+what, show(impl.OwnWorths(v, owners)), show(ownReference(v, owners), true))
	is(t, "EnvyTable"+what, show(impl.EnvyTable(v, owners)), show(envyReference(v, owners), true))
	is(t, "IsEnvyFree"+what, show(impl.IsEnvyFree(v, owners)), show(isEnvyFreeReference(v, owners), true))
	is(t, "IsFreeUpToOne"+what, show(impl.IsFreeUpToOne(v, owners)), show(isFreeUpToOneReference(v, owners), true))
	is(t, "IsEvenShare"+what, show(impl.IsEvenShare(v, owners)), show(isEvenReference(v, owners), true))
}

func TestOwnersAreToldByTheirParts(t *testing.T) {
	d := dice(111)
	for _, v := range someValues() {
		for range 4 {
			checkOwned(t, v, d.integers(v.Things, 0, v.Players-1))
		}
		// The last player owns all, and then the first one.
		checkOwned(t, v, copies(v.Players-1, int(v.Things)))
		checkOwned(t, v, make([]int64, v.Things))
	}
	for _, v := range smallValues() {
		for _, owners := range ownings(2, 3) {
			checkOwned(t, v, owners)
		}
	}
}

// noOwners asks all functions that take owners for some that are not valid.
func noOwners(t *testing.T, v impl.Values, owners []int64) {
	t.Helper()
	what := " of " + show(v, owners)
	is(t, "OwnWorths"+what, show(impl.OwnWorths(v, owners)), "[] false")
	is(t, "EnvyTable"+what, show(impl.EnvyTable(v, owners)), "[] false")
	is(t, "IsEnvyFree"+what, show(impl.IsEnvyFree(v, owners)), "false false")
	is(t, "IsFreeUpToOne"+what, show(impl.IsFreeUpToOne(v, owners)), "false false")
	is(t, "IsEvenShare"+what, show(impl.IsEvenShare(v, owners)), "false false")
}

func TestOwnersAreAPlayerForEachThing(t *testing.T) {
	for _, v := range []impl.Values{equalThings(1, 1, 0), equalThings(1, 8, 5), twoThings(), equalThings(3, 4, 7), equalThings(6, 8, 1000)} {
		for _, owners := range wrongOwners(v.Players, v.Things) {
			noOwners(t, v, owners)
		}
		checkOwned(t, v, copies(v.Players-1, int(v.Things)))
	}
}

func TestOwnersAtTheEdges(t *testing.T) {
	for _, c := range []struct {
		v             impl.Values
		owners        []int64
		worths, table string
		free, upToOne bool
		even          bool
	}{
		{twoThings(), []int64{0, 1}, "[5 4]", "[0 -2 1 0]", false, true, false},
		{twoThings(), []int64{1, 0}, "[3 5]", "[0 2 -1 0]", false, true, false},
		{twoThings(), []int64{0, 0}, "[8 0]", "[0 -8 9 0]", false, false, false},
		{equalThings(1, 1, 0), []int64{0}, "[0]", "[0]", true, true, true},
		{equalThings(1, 8, 1000), make([]int64, 8), "[8000]", "[0]", true, true, true},
		// What is worth nothing is envied by nobody, and an even share of nothing.
		{equalThings(3, 2, 0), []int64{1, 1}, "[0 0 0]", "[0 0 0 0 0 0 0 0 0]", true, true, true},
		{things([]int64{0, 0, 0}, []int64{0, 0, 7}), []int64{0, 0, 0}, "[0 0]", "[0 0 7 0]", false, true, false},
		{things([]int64{1, 1, 0}, []int64{0, 0, 0}), []int64{1, 1, 0}, "[0 0]", "[0 2 0 0]", false, false, false},
		// Half of all is even, a little less is not.
		{things([]int64{3, 2, 5}, []int64{0, 1, 1}), []int64{0, 0, 1}, "[5 1]", "[0 0 0 0]", true, true, true},
		{things([]int64{3, 2, 6}, []int64{0, 1, 0}), []int64{0, 0, 1}, "[5 0]", "[0 1 1 0]", false, true, false},
		// Thirds of 10 are 4 and not 3.
		{things([]int64{4, 3, 3}, []int64{4, 3, 3}, []int64{4, 3, 3}), []int64{0, 1, 2}, "[4 3 3]", "[0 -1 -1 1 0 0 1 0 0]", false, true, false},
		{things([]int64{4, 3, 3}, []int64{3, 4, 3}, []int64{3, 3, 4}), []int64{0, 1, 2}, "[4 4 4]", "[0 -1 -1 -1 0 -1 -1 -1 0]", true, true, true},
		// The dearest thing of the other one is as much as the envy, or 1 less.
		{things([]int64{4, 4, 3, 1}, []int64{0, 0, 0, 0}), []int64{1, 1, 0, 0}, "[4 0]", "[0 4 0 0]", false, true, false},
		{things([]int64{4, 4, 3, 0}, []int64{0, 0, 0, 0}), []int64{1, 1, 0, 0}, "[3 0]", "[0 5 0 0]", false, false, false},
		{things([]int64{3, 5, 3, 0}, []int64{0, 0, 0, 0}), []int64{1, 1, 0, 0}, "[3 0]", "[0 5 0 0]", false, true, false},
		{things([]int64{5, 3, 3, 0}, []int64{0, 0, 0, 0}), []int64{1, 1, 0, 0}, "[3 0]", "[0 5 0 0]", false, true, false},
		// Only the last player envies, and only the first one has not enough.
		{things([]int64{1, 0, 0}, []int64{0, 1, 0}, []int64{0, 2, 1}), []int64{0, 1, 2}, "[1 1 1]", "[0 -1 -1 -1 0 -1 -1 1 0]", false, true, true},
	} {
		what := " of " + show(c.v, c.owners)
		is(t, "OwnWorths"+what, show(impl.OwnWorths(c.v, c.owners)), c.worths+" true")
		is(t, "EnvyTable"+what, show(impl.EnvyTable(c.v, c.owners)), c.table+" true")
		is(t, "IsEnvyFree"+what, show(impl.IsEnvyFree(c.v, c.owners)), show(c.free, true))
		is(t, "IsFreeUpToOne"+what, show(impl.IsFreeUpToOne(c.v, c.owners)), show(c.upToOne, true))
		is(t, "IsEvenShare"+what, show(impl.IsEvenShare(c.v, c.owners)), show(c.even, true))
		checkOwned(t, c.v, c.owners)
	}
}

// TestFairPartsImplyFairOnes has what follows from not envying: an even share,
// and not envying up to one thing.
func TestFairPartsImplyFairOnes(t *testing.T) {
	d := dice(112)
	count := 0
	for range 4000 {
		v := d.values(d.from(1, 4), d.from(1, 8), 9)
		owners := d.integers(v.Things, 0, v.Players-1)
		free, _ := impl.IsEnvyFree(v, owners)
		if !free {
			continue
		}
		count++
		is(t, "IsEvenShare of "+show(v, owners), show(impl.IsEvenShare(v, owners)), "true true")
		is(t, "IsFreeUpToOne of "+show(v, owners), show(impl.IsFreeUpToOne(v, owners)), "true true")
	}
	if count < 500 {
		t.Errorf("only %d owners envy nobody", count)
	}
}
