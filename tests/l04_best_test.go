package tests

import (
	"testing"

	"loop.example/g01365/impl"
)

// showBest tells the best owners, if there are few enough for them to be found.
func showBest(v impl.Values, tell func(worths []int64) int64) string {
	if numberOfOwnings(v) > 4096 {
		return "[] 0 false"
	}
	owners, most := bestReference(v, tell)
	return show(owners, most, true)
}

func checkBest(t *testing.T, v impl.Values) {
	t.Helper()
	is(t, "MostWorth of "+show(v), show(impl.MostWorth(v)), showBest(v, sum))
	is(t, "MostLeast of "+show(v), show(impl.MostLeast(v)), showBest(v, least))
	want := showBest(v, product)
	if numberOfOwnings(v) <= 4096 {
		if _, most := bestReference(v, product); most > 1000000000000 {
			want = "[] 0 false"
		}
	}
	is(t, "MostProduct of "+show(v), show(impl.MostProduct(v)), want)
}

func TestBestOwnersAreTheFirstGreatestOnes(t *testing.T) {
	for _, v := range someValues() {
		checkBest(t, v)
	}
	for _, v := range smallValues() {
		checkBest(t, v)
	}
	d := dice(131)
	for range 300 {
		v := d.values(d.from(1, 5), d.from(1, 5), d.from(1, 1000))
		checkBest(t, v)
	}
}

func TestBestOwnersAtTheEdges(t *testing.T) {
	for _, c := range []struct {
		v                     impl.Values
		worth, least, product string
	}{
		{things([]int64{6, 4, 2}, []int64{3, 3, 3}), "[0 0 1] 13", "[0 1 1] 6", "[0 1 1] 36"},
		{things([]int64{5}), "[0] 5", "[0] 5", "[0] 5"},
		{equalThings(1, 8, 1000), "[0 0 0 0 0 0 0 0] 8000", "[0 0 0 0 0 0 0 0] 8000", "[0 0 0 0 0 0 0 0] 8000"},
		// What is worth nothing to anybody goes to the first player.
		{equalThings(4, 6, 0), "[0 0 0 0 0 0] 0", "[0 0 0 0 0 0] 0", "[0 0 0 0 0 0] 0"},
		// Equal things could go to anybody, and each one should have some.
		{equalThings(2, 2, 3), "[0 0] 6", "[0 1] 3", "[0 1] 9"},
		{equalThings(2, 3, 3), "[0 0 0] 9", "[0 0 1] 3", "[0 0 1] 18"},
		// Of fewer things than players, somebody has none.
		{equalThings(3, 2, 5), "[0 0] 10", "[0 0] 0", "[0 0] 0"},
		{things([]int64{0}, []int64{7}), "[1] 7", "[0] 0", "[0] 0"},
		{things([]int64{0, 0}, []int64{7, 1}), "[1 1] 8", "[0 0] 0", "[0 0] 0"},
		// 3 and 3 have the greatest least part, 8 and 2 the greatest product.
		{things([]int64{3, 5, 0}, []int64{0, 3, 2}), "[0 0 1] 10", "[0 1 0] 3", "[0 0 1] 16"},
		{equalThings(2, 2, 1000), "[0 0] 2000", "[0 1] 1000", "[0 1] 1000000"},
	} {
		is(t, "MostWorth of "+show(c.v), show(impl.MostWorth(c.v)), c.worth+" true")
		is(t, "MostLeast of "+show(c.v), show(impl.MostLeast(c.v)), c.least+" true")
		is(t, "MostProduct of "+show(c.v), show(impl.MostProduct(c.v)), c.product+" true")
		checkBest(t, c.v)
	}
}

// TestBestOwnersHaveALimit has 4096 owners, the numbers below, and the next ones
// above, for all numbers of players and things.
func TestBestOwnersHaveALimit(t *testing.T) {
	mostThings := []int64{0, 8, 8, 7, 6, 5, 4}
	for players := int64(1); players <= 6; players++ {
		for n := int64(1); n <= 8; n++ {
			v := equalThings(players, n, 1)
			isFew := n <= mostThings[players]
			_, _, worthOK := impl.MostWorth(v)
			_, _, leastOK := impl.MostLeast(v)
			_, _, productOK := impl.MostProduct(v)
			part, partOK := impl.LeastPart(v, players-1)
			parts, partsOK := impl.PartsShared(v, 1)
			is(t, "best owners of "+show(v), show(worthOK, leastOK, productOK, partOK, partsOK), show(isFew, isFew, isFew, isFew, isFew))
			want, many := int64(0), []int64(nil)
			if isFew {
				want, many = n/players, copies(n/players, int(players))
			}
			is(t, "LeastPart of "+show(v), show(part), show(want))
			is(t, "PartsShared of "+show(v), show(parts), show(many))
			checkBest(t, v)
		}
	}
}

func TestMostProductHasALimit(t *testing.T) {
	for _, c := range []struct {
		v    impl.Values
		want string
	}{
		{equalThings(4, 4, 1000), "[0 1 2 3] 1000000000000 true"}, // just as much as may be
		{things([]int64{1000, 0, 0, 0, 0}, []int64{0, 1000, 0, 0, 0}, []int64{0, 0, 1000, 0, 0}, []int64{0, 0, 0, 1000, 0}), "[0 1 2 3 0] 1000000000000 true"},
		{things([]int64{1000, 0, 0, 0, 1}, []int64{0, 1000, 0, 0, 0}, []int64{0, 0, 1000, 0, 0}, []int64{0, 0, 0, 1000, 0}), "[] 0 false"}, // 1001000000000
		{equalThings(4, 4, 999), "[0 1 2 3] 996005996001 true"},
		{equalThings(4, 5, 1000), "[] 0 false"},
		{equalThings(4, 6, 1000), "[] 0 false"},
		{equalThings(5, 5, 1000), "[] 0 false"},
		{equalThings(5, 5, 252), "[] 0 false"},                        // 1016255020032
		{equalThings(5, 5, 251), "[0 1 2 3 4] 996250626251 true"},     // just below
		{equalThings(3, 7, 1000), "[0 0 0 1 1 2 2] 12000000000 true"}, // far below
		{equalThings(2, 8, 1000), "[0 0 0 0 1 1 1 1] 16000000 true"},
		{equalThings(6, 4, 1000), "[0 0 0 0] 0 true"}, // somebody has nothing
	} {
		is(t, "MostProduct of "+show(c.v), show(impl.MostProduct(c.v)), c.want)
	}
	// Four of five players could have more than that, but the last one has nothing.
	nothing := equalThings(5, 5, 1000)
	clear(nothing.Worths[20:])
	is(t, "MostProduct of "+show(nothing), show(impl.MostProduct(nothing)), "[0 0 0 0 0] 0 true")
	checkBest(t, nothing)
}

// TestBestOwnersAreFair has what follows from being best: greatest products leave
// nobody envious up to one thing, and greatest sums give each thing to one to
// whom it is worth most.
func TestBestOwnersAreFair(t *testing.T) {
	d := dice(132)
	for _, v := range append(fewOwnings(someValues()), d.values(4, 6, 100), d.values(3, 7, 100), d.values(5, 5, 200)) {
		owners, most, ok := impl.MostProduct(v)
		if ok && most > 0 {
			is(t, "IsFreeUpToOne of MostProduct of "+show(v), show(impl.IsFreeUpToOne(v, owners)), "true true")
		}
		owners, most, ok = impl.MostWorth(v)
		sums := int64(0)
		for thing, owner := range owners {
			for i := range v.Players {
				if valueOf(v, i, int64(thing)) > valueOf(v, owner, int64(thing)) {
					t.Fatalf("MostWorth of %s gives the thing %d to %d", show(v), thing, owner)
				}
			}
			sums += valueOf(v, owner, int64(thing))
		}
		is(t, "the sum of MostWorth of "+show(v), show(most, ok), show(sums, true))
	}
}

func TestLeastPartIsTheGreatestOneForAPlayer(t *testing.T) {
	d := dice(133)
	for _, v := range fewOwnings(append(append(someValues(), smallValues()...), d.values(4, 6, 1000), d.values(3, 7, 1000))) {
		for i := range v.Players {
			is(t, "LeastPart of "+show(v, i), show(impl.LeastPart(v, i)), show(leastPartReference(v, i), true))
		}
	}
	for _, c := range []struct {
		v    impl.Values
		i    int64
		want string
	}{
		{things([]int64{6, 4, 2}, []int64{3, 3, 3}), 0, "6 true"},
		{things([]int64{6, 4, 2}, []int64{3, 3, 3}), 1, "3 true"},
		{things([]int64{7, 4, 2}, []int64{3, 3, 3}), 0, "6 true"},
		{things([]int64{5, 4, 2}, []int64{3, 3, 3}), 0, "5 true"},
		{things([]int64{8, 7, 6, 5, 4}, []int64{0, 0, 0, 0, 9}), 0, "15 true"},
		{things([]int64{8, 7, 6, 5, 4}, []int64{0, 0, 0, 0, 9}), 1, "0 true"},
		{things([]int64{9}), 0, "9 true"},
		{equalThings(1, 8, 1000), 0, "8000 true"},
		{equalThings(2, 8, 1000), 1, "4000 true"},
		{equalThings(6, 4, 1000), 5, "0 true"}, // more parts than things
		{equalThings(3, 7, 0), 2, "0 true"},
		{equalThings(3, 8, 1), 0, "0 false"}, // 6561 owners
	} {
		is(t, "LeastPart of "+show(c.v, c.i), show(impl.LeastPart(c.v, c.i)), c.want)
	}
}

// TestLeastPartsAreAtMostAnEvenShare has, for equal rows, the greatest least part.
func TestLeastPartsAreAtMostAnEvenShare(t *testing.T) {
	d := dice(134)
	for _, v := range fewOwnings(append(someValues(), d.values(4, 6, 1000))) {
		for i := range v.Players {
			part, _ := impl.LeastPart(v, i)
			is(t, "LeastPart of "+show(v, i)+" is at most even", show(part*v.Players <= sum(rowOf(v, i))), "true")
		}
		same := d.alike(v.Players, v.Things, 50)
		_, most, _ := impl.MostLeast(same)
		is(t, "LeastPart of "+show(same), show(impl.LeastPart(same, v.Players-1)), show(most, true))
	}
}

func TestLeastPartNeedsAPlayer(t *testing.T) {
	for _, v := range []impl.Values{equalThings(1, 1, 5), twoThings(), equalThings(6, 4, 5)} {
		for _, wrong := range wrongPlayers(v.Players) {
			is(t, "LeastPart of "+show(v, wrong), show(impl.LeastPart(v, wrong)), "0 false")
		}
	}
}
