package tests

import (
	"slices"
	"testing"

	"loop.example/g01365/impl"
)

// someRooms are values of as many rooms as players.
func someRooms() []impl.Values {
	list := []impl.Values{twoRooms()}
	d := dice(151)
	for n := int64(1); n <= impl.MaxHeirs; n++ {
		list = append(list, equalThings(n, n, 0), equalThings(n, n, 7), equalThings(n, n, impl.MaxPrize))
		for range 12 {
			list = append(list, d.values(n, n, 1), d.values(n, n, 4), d.values(n, n, 30), d.values(n, n, impl.MaxPrize), d.alike(n, n, 50), d.thinValues(n, n))
		}
	}
	return list
}

// smallRooms are all values of two rooms from 0 to 3, and many of three.
func smallRooms() []impl.Values {
	var list []impl.Values
	for _, worths := range ownings(4, 4) {
		list = append(list, impl.Values{Players: 2, Things: 2, Worths: worths})
	}
	for n, worths := range ownings(3, 9) {
		if n%7 == 0 {
			list = append(list, impl.Values{Players: 3, Things: 3, Worths: worths})
		}
	}
	return list
}

// checkRent compares rooms and prices, and looks whether these make the total,
// and whether nobody would rather have another room.
func checkRent(t *testing.T, v impl.Values, total int64) {
	t.Helper()
	what := "RentOf " + show(v, total)
	rooms, prices, ok := impl.RentOf(v, total)
	best := roomsReference(v)
	is(t, what, show(rooms, prices, ok), show(best, pricesReference(v, best, total), true))
	is(t, what+" costs all", show(sum(prices)), show(total*v.Players))
	is(t, what+" is fair", show(impl.IsRentFair(v, rooms, prices)), "true true")
}

func TestRentLeavesNobodyEnvious(t *testing.T) {
	d := dice(152)
	for _, v := range someRooms() {
		for _, total := range []int64{0, 1, 100000, d.from(0, 100000)} {
			checkRent(t, v, total)
		}
	}
	for n, v := range smallRooms() {
		checkRent(t, v, int64(n)%50)
	}
}

func TestRentAtTheEdges(t *testing.T) {
	for _, c := range []struct {
		v     impl.Values
		total int64
		want  string
	}{
		{twoRooms(), 40, "[0 1] [40 40] true"},
		{twoRooms(), 0, "[0 1] [0 0] true"},
		{things([]int64{0}), 0, "[0] [0] true"},
		{things([]int64{1000}), 100000, "[0] [100000] true"},
		// Equal rooms: the first one for the first player, and equal prices.
		{equalThings(3, 3, 5), 9, "[0 1 2] [9 9 9] true"},
		{equalThings(6, 6, 0), 100000, "[0 1 2 3 4 5] " + show(copies[int64](100000, 6)) + " true"},
		{equalThings(6, 6, 1000), 1, "[0 1 2 3 4 5] [1 1 1 1 1 1] true"},
		// All would rather have the same room, and it costs more by what it is worth more.
		{things([]int64{9, 4}, []int64{9, 4}), 5, "[0 1] [10 0] true"},
		{things([]int64{4, 9}, []int64{4, 9}), 5, "[0 1] [0 10] true"},
		{things([]int64{4, 9}, []int64{4, 9}), 0, "[0 1] [-5 5] true"}, // who has the worse one gets something
		{things([]int64{10, 30}, []int64{20, 20}), 40, "[1 0] [40 40] true"},
		{things([]int64{0, 10}, []int64{0, 5}), 0, "[1 0] [-5 5] true"},
		{things([]int64{0, 5}, []int64{0, 10}), 0, "[0 1] [-5 5] true"},
		// The player 0 alone wants another room.
		{things([]int64{3, 0, 4}, []int64{0, 3, 0}, []int64{0, 4, 9}), 0, "[0 1 2] [-1 -1 2] true"},
		// Each room rises by the one before, which comes first, or last.
		{things([]int64{5, 6, 0}, []int64{0, 5, 6}, []int64{0, 0, 5}), 0, "[0 1 2] [-3 0 3] true"},
		{things([]int64{5, 0, 0}, []int64{6, 5, 0}, []int64{0, 6, 5}), 0, "[0 1 2] [3 0 -3] true"},
		{things([]int64{5, 0, 0, 0}, []int64{6, 5, 0, 0}, []int64{0, 6, 5, 0}, []int64{0, 0, 6, 5}), 0, "[0 1 2 3] [6 2 -2 -6] true"},
		{equalThings(2, 2, 5), 100001, "[] [] false"},
		{equalThings(2, 2, 5), 100000, "[0 1] [100000 100000] true"},
		{equalThings(2, 2, 5), -1, "[] [] false"},
		{equalThings(2, 3, 5), 10, "[] [] false"}, // more rooms than players
		{equalThings(3, 2, 5), 10, "[] [] false"},
		{equalThings(1, 2, 5), 10, "[] [] false"},
		{equalThings(2, 1, 5), 10, "[] [] false"},
		{equalThings(6, 8, 5), 10, "[] [] false"},
	} {
		is(t, "RentOf "+show(c.v, c.total), show(impl.RentOf(c.v, c.total)), c.want)
	}
	for _, far := range farNumbers() {
		is(t, "RentOf a total of "+show(far), show(impl.RentOf(twoRooms(), far)), "[] [] false")
	}
}

// TestRentGoesToTheFirstBestRooms has no other rooms with a greater sum, and none
// before with the same.
func TestRentGoesToTheFirstBestRooms(t *testing.T) {
	for _, v := range append(someRooms(), smallRooms()...) {
		rooms, _, _ := impl.RentOf(v, 0)
		all := func(rooms []int64) int64 {
			worth := int64(0)
			for i, room := range rooms {
				worth += valueOf(v, int64(i), room)
			}
			return worth
		}
		for _, other := range orders(v.Players) {
			if before := slices.Compare(other, rooms) < 0; all(other) > all(rooms) || before && all(other) == all(rooms) {
				t.Fatalf("RentOf %s gives %v and not %v", show(v), rooms, other)
			}
		}
	}
}

func TestIsRentFairComparesAllRooms(t *testing.T) {
	d := dice(153)
	fair := 0
	for _, v := range append(someRooms(), smallRooms()...) {
		for range 4 {
			total := d.from(0, 60)
			rooms, prices, _ := impl.RentOf(v, total)
			for i := range prices {
				prices[i] += d.from(-1, 1) * d.from(0, 2)
			}
			if d.from(0, 2) == 0 {
				rooms = d.order(v.Players)
			}
			want := isFairReference(v, rooms, prices)
			is(t, "IsRentFair of "+show(v, rooms, prices), show(impl.IsRentFair(v, rooms, prices)), show(want, true))
			if want {
				fair++
			}
		}
	}
	if fair < 1000 {
		t.Errorf("only %d of the rents are fair", fair)
	}
}

func TestIsRentFairAtTheEdges(t *testing.T) {
	three := things([]int64{5, 6, 0}, []int64{0, 5, 6}, []int64{0, 0, 5})
	for _, c := range []struct {
		v             impl.Values
		rooms, prices []int64
		want          string
	}{
		{twoRooms(), []int64{0, 1}, []int64{40, 40}, "true true"},
		{twoRooms(), []int64{1, 0}, []int64{40, 40}, "false true"},
		{twoRooms(), []int64{0, 1}, []int64{80, 40}, "true true"}, // 60 - 80 is 20 - 40
		{twoRooms(), []int64{0, 1}, []int64{81, 40}, "false true"},
		{twoRooms(), []int64{0, 1}, []int64{40, 41}, "false true"},
		{twoRooms(), []int64{0, 1}, []int64{-1000000000, -1000000000}, "true true"},
		{twoRooms(), []int64{0, 1}, []int64{1000000000, 1000000000}, "true true"},
		{twoRooms(), []int64{0, 1}, []int64{1000000000, -1000000000}, "false true"},
		{twoRooms(), []int64{0, 1}, []int64{-1000000000, 1000000000}, "false true"},
		{twoRooms(), []int64{0, 1}, []int64{1000000001, 1000000000}, "false false"},
		{twoRooms(), []int64{0, 1}, []int64{0, -1000000001}, "false false"},
		{things([]int64{0}), []int64{0}, []int64{1000000000}, "true true"},
		{things([]int64{0}), []int64{0}, []int64{-1000000001}, "false false"},
		// Prices are those of rooms, not those of players.
		{things([]int64{0, 10}, []int64{10, 0}), []int64{1, 0}, []int64{20, 0}, "true true"},
		{things([]int64{0, 10}, []int64{10, 0}), []int64{1, 0}, []int64{0, 20}, "true true"},
		{things([]int64{0, 10}, []int64{10, 0}), []int64{1, 0}, []int64{21, 0}, "false true"},
		// One player alone envies, the first one, and then the last one.
		{three, []int64{0, 1, 2}, []int64{-3, 0, 3}, "true true"},
		{three, []int64{0, 1, 2}, []int64{-3, -1, 2}, "false true"},
		{three, []int64{0, 1, 2}, []int64{-3, 0, 12}, "true true"},
		{three, []int64{0, 1, 2}, []int64{-3, 0, 13}, "false true"},
		// Rooms are all different, and there are as many as players.
		{twoRooms(), []int64{0, 0}, []int64{0, 0}, "false false"},
		{twoRooms(), []int64{1, 1}, []int64{0, 0}, "false false"},
		{twoRooms(), []int64{0}, []int64{0, 0}, "false false"},
		{twoRooms(), []int64{0, 1, 1}, []int64{0, 0}, "false false"},
		{twoRooms(), nil, []int64{0, 0}, "false false"},
		{twoRooms(), []int64{0, 1}, []int64{0}, "false false"},
		{twoRooms(), []int64{0, 1}, []int64{0, 0, 0}, "false false"},
		{twoRooms(), []int64{0, 1}, nil, "false false"},
		{equalThings(2, 3, 0), []int64{0, 1}, []int64{0, 0}, "false false"},
		{equalThings(2, 3, 0), []int64{0, 1}, []int64{0, 0, 0}, "false false"},
		{equalThings(2, 3, 0), []int64{0, 1, 2}, []int64{0, 0, 0}, "false false"},
		{equalThings(3, 2, 0), []int64{0, 1}, []int64{0, 0}, "false false"},
		{equalThings(3, 2, 0), []int64{0, 1, 0}, []int64{0, 0}, "false false"},
		{equalThings(3, 2, 0), []int64{0, 1, 2}, []int64{0, 0, 0}, "false false"},
	} {
		is(t, "IsRentFair of "+show(c.v, c.rooms, c.prices), show(impl.IsRentFair(c.v, c.rooms, c.prices)), c.want)
	}
}

func TestIsRentFairNeedsRoomsAndPrices(t *testing.T) {
	v := equalThings(3, 3, 5)
	for _, wrong := range wrongPlayers(3) {
		for at := range 3 {
			rooms := numbersTo(3)
			rooms[at] = wrong
			is(t, "IsRentFair of "+show(rooms), show(impl.IsRentFair(v, rooms, make([]int64, 3))), "false false")
		}
	}
	for _, far := range append(farNumbers(), 1000000001, -1000000001) {
		for at := range 3 {
			prices := make([]int64, 3)
			prices[at] = far
			is(t, "IsRentFair of "+show(prices), show(impl.IsRentFair(v, numbersTo(3), prices)), "false false")
		}
	}
}
