package tests

import (
	"slices"
	"testing"

	"loop.example/g01365/impl"
)

func TestHouseRoundsExchangesAlongRings(t *testing.T) {
	d := dice(261)
	list := someHouses()
	for range 3000 {
		list = append(list, d.fullLists(d.from(2, 8)))
	}
	stays, moves := 0, 0
	for _, wishes := range list {
		want := houseRoundsReference(wishes)
		is(t, "HouseRounds of "+show(wishes), show(impl.HouseRounds(wishes)), show(want, true))
		for i, house := range want {
			if house == int64(i) {
				stays++
			} else {
				moves++
			}
			// Nobody gets a less dear house than its own.
			is(t, "whether it is no loss in "+show(wishes, want), show(holds(wishes[i], int64(i), house)), "false")
		}
	}
	if stays < 1000 || moves < 1000 {
		t.Errorf("%d stay, and %d move", stays, moves)
	}
}

// TestNoSetCouldDoBetterThanByRounds tries all ways to give houses: there are
// sets that could do better in each one but that of the rounds.
func TestNoSetCouldDoBetterThanByRounds(t *testing.T) {
	d := dice(262)
	check := func(wishes [][]int64) {
		t.Helper()
		rounds, _ := impl.HouseRounds(wishes)
		for _, match := range orders(int64(len(wishes))) {
			want, isBlocked := houseBlockReference(wishes, match)
			is(t, "HouseBlock of "+show(wishes, match), show(impl.HouseBlock(wishes, match)), show(want, isBlocked))
			is(t, "whether it is not that of rounds", show(isBlocked), show(!slices.Equal(match, rounds)))
		}
	}
	for _, a := range orders(3) {
		for _, b := range orders(3) {
			for _, c := range orders(3) {
				check([][]int64{a, b, c})
			}
		}
	}
	for _, wishes := range [][][]int64{{{0}}, {{0, 1}, {0, 1}}, {{1, 0}, {0, 1}}, {{0, 1}, {1, 0}}, {{1, 0}, {1, 0}}} {
		check(wishes)
	}
	for range 40 {
		check(d.fullLists(4))
	}
	for range 5 {
		check(d.fullLists(5))
	}
	for range 1000 {
		wishes := d.fullLists(d.from(6, 8))
		rounds, _ := impl.HouseRounds(wishes)
		is(t, "HouseBlock of "+show(wishes, rounds), show(impl.HouseBlock(wishes, rounds)), "[] false")
	}
}

// nextHouses are those of whom each one holds the next house dearest, and then
// its own, so that only all together can do better.
func nextHouses(n int64) [][]int64 {
	var lists [][]int64
	for i := range n {
		list := []int64{(i + 1) % n}
		for k := range n {
			if house := (i + k) % n; house != list[0] {
				list = append(list, house)
			}
		}
		lists = append(lists, list)
	}
	return lists
}

// TestSetsOfManyCouldDoBetter has sets of five and more houses.
func TestSetsOfManyCouldDoBetter(t *testing.T) {
	d := dice(263)
	sizes := make([]int, 9)
	check := func(wishes [][]int64, match []int64) {
		t.Helper()
		want, isBlocked := houseBlockReference(wishes, match)
		is(t, "HouseBlock of "+show(wishes, match), show(impl.HouseBlock(wishes, match)), show(want, isBlocked))
		sizes[len(want)]++
	}
	for range 100 {
		n := d.from(5, 6)
		check(d.fullLists(n), d.order(n))
		// Few are in the way of those who have what is dearest to them but one.
		wishes := d.fullLists(n)
		match, _ := impl.HouseTurns(wishes, d.order(n))
		check(wishes, match)
	}
	for n := int64(1); n <= 6; n++ {
		check(nextHouses(n), numbersTo(n))
		check(turnedAround(n, 1), numbersTo(n))
	}
	is(t, "HouseBlock of eight", show(impl.HouseBlock(nextHouses(8), numbersTo(8))), "[0 1 2 3 4 5 6 7] true")
	if slices.Min(sizes[:6]) == 0 {
		t.Errorf("sets of these sizes: %v", sizes)
	}
}

func TestHousesAtTheEdges(t *testing.T) {
	alike := copies(numbersTo(8), 8)
	for _, c := range []struct {
		wishes [][]int64
		match  []int64
		rounds string
		block  string
	}{
		{[][]int64{{0}}, []int64{0}, "[0] true", "[] false"},
		{threeHouses(), []int64{0, 1, 2}, "[1 2 0] true", "[0 1] true"},
		{threeHouses(), []int64{1, 2, 0}, "[1 2 0] true", "[] false"},
		{threeHouses(), []int64{2, 1, 0}, "[1 2 0] true", "[0] true"}, // 0 has a dearer one of its own
		{turnedAround(8, 1), numbersTo(8), "[1 2 3 4 5 6 7 0] true", "[0 1] true"},
		{nextHouses(8), numbersTo(8), "[1 2 3 4 5 6 7 0] true", "[0 1 2 3 4 5 6 7] true"},
		{turnedAround(8, 0), numbersTo(8), "[0 1 2 3 4 5 6 7] true", "[] false"}, // eight rings of one at once
		{turnedAround(8, 0), []int64{1, 0, 2, 3, 4, 5, 6, 7}, "[0 1 2 3 4 5 6 7] true", "[0] true"},
		{alike, numbersTo(8), "[0 1 2 3 4 5 6 7] true", "[] false"}, // one ring of one after another
		{alike, []int64{0, 1, 2, 3, 4, 5, 7, 6}, "[0 1 2 3 4 5 6 7] true", "[6] true"},
		// Two rings of two at once, and a ring of one behind them.
		{[][]int64{{1, 0, 2, 3, 4}, {0, 1, 2, 3, 4}, {3, 0, 1, 2, 4}, {2, 0, 1, 3, 4}, {0, 1, 2, 3, 4}}, []int64{0, 1, 2, 3, 4}, "[1 0 3 2 4] true", "[0 1] true"},
		{[][]int64{{1, 0, 2, 3, 4}, {0, 1, 2, 3, 4}, {3, 0, 1, 2, 4}, {2, 0, 1, 3, 4}, {0, 1, 2, 3, 4}}, []int64{1, 0, 2, 3, 4}, "[1 0 3 2 4] true", "[2 3] true"},
		// 2 would rather keep its own house.
		{[][]int64{{2, 0, 1}, {0, 1, 2}, {0, 2, 1}}, []int64{2, 0, 1}, "[2 1 0] true", "[2] true"},
		// 2 gets its dearest house from 0, who has that of 2 as before.
		{[][]int64{{2, 0, 1}, {0, 1, 2}, {0, 1, 2}}, []int64{2, 0, 1}, "[2 1 0] true", "[0 2] true"},
		// Nobody has a less dear one if all keep what they have: this is not better.
		{[][]int64{{1, 0}, {0, 1}}, []int64{1, 0}, "[1 0] true", "[] false"},
		{[][]int64{{1, 0}, {0, 1}}, []int64{0, 1}, "[1 0] true", "[0 1] true"},
		{[][]int64{{1, 0}, {1, 0}}, []int64{0, 1}, "[0 1] true", "[] false"},
		{[][]int64{{1, 0}, {1, 0}}, []int64{1, 0}, "[0 1] true", "[1] true"},
	} {
		is(t, "HouseRounds of "+show(c.wishes), show(impl.HouseRounds(c.wishes)), c.rounds)
		is(t, "HouseBlock of "+show(c.wishes, c.match), show(impl.HouseBlock(c.wishes, c.match)), c.block)
	}
}

func TestHouseTurnsTakesTheDearestThatIsLeft(t *testing.T) {
	d := dice(264)
	for _, wishes := range someHouses() {
		for range 5 {
			order := d.order(int64(len(wishes)))
			is(t, "HouseTurns of "+show(wishes, order), show(impl.HouseTurns(wishes, order)), show(houseTurnsReference(wishes, order), true))
		}
	}
	for _, order := range orders(4) {
		for _, wishes := range [][][]int64{turnedAround(4, 1), copies(numbersTo(4), 4), {{3, 1, 0, 2}, {3, 0, 1, 2}, {1, 3, 2, 0}, {1, 0, 3, 2}}} {
			is(t, "HouseTurns of "+show(wishes, order), show(impl.HouseTurns(wishes, order)), show(houseTurnsReference(wishes, order), true))
		}
	}
	is(t, "HouseTurns of one", show(impl.HouseTurns([][]int64{{0}}, []int64{0})), "[0] true")
	is(t, "HouseTurns of three", show(impl.HouseTurns(threeHouses(), []int64{2, 1, 0})), "[1 2 0] true")
	is(t, "HouseTurns of those who are alike", show(impl.HouseTurns(copies(numbersTo(8), 8), []int64{7, 0, 6, 1, 5, 2, 4, 3})), "[1 3 5 7 6 4 2 0] true")
}

func TestHousesHaveLimits(t *testing.T) {
	for _, wishes := range wrongHouses() {
		all := numbersTo(int64(len(wishes)))
		is(t, "HouseRounds of "+show(wishes), show(impl.HouseRounds(wishes)), "[] false")
		is(t, "HouseTurns of "+show(wishes), show(impl.HouseTurns(wishes, all)), "[] false")
		is(t, "HouseBlock of "+show(wishes), show(impl.HouseBlock(wishes, all)), "[] false")
	}
	for n := int64(1); n <= 10; n++ {
		_, ok := impl.HouseRounds(turnedAround(n, 2))
		is(t, "whether there are so many houses: "+show(n), show(ok), show(n <= 8))
	}
	for _, n := range []int64{1, 2, 3, 8} {
		wishes := turnedAround(n, 1)
		for _, wrong := range wrongOrders(n) {
			is(t, "HouseTurns of "+show(wishes, wrong), show(impl.HouseTurns(wishes, wrong)), "[] false")
			is(t, "HouseBlock of "+show(wishes, wrong), show(impl.HouseBlock(wishes, wrong)), "[] false")
		}
	}
}
