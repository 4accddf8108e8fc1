package tests

import (
	"slices"
	"testing"

	"loop.example/g01365/impl"
)

func TestRoomsOfAreTheFirstQuietOnes(t *testing.T) {
	d := dice(271)
	list := someFriends()
	for range 2000 {
		list = append(list, d.friends(2*d.from(1, 4)))
	}
	none, several, later := 0, 0, 0
	for _, friends := range list {
		want, ok := quietReference(friends)
		is(t, "RoomsOf of "+show(friends), show(impl.RoomsOf(friends)), show(want, ok))
		quiet := slices.DeleteFunc(roomings(int64(len(friends))), func(rooms []int64) bool { return !isQuietReference(friends, rooms) })
		switch {
		case len(quiet) == 0:
			none++
		case len(quiet) > 1:
			several++
		}
		if ok && want[0] > 1 {
			later++
		}
	}
	if none < 50 || several < 100 || later < 300 {
		t.Errorf("%d friends have no quiet rooms, %d several, and %d later ones", none, several, later)
	}
}

// isRoomsReference reports whether each one is with somebody who is with it.
func isRoomsReference(n int64, rooms []int64) bool {
	for i, with := range rooms {
		if with < 0 || with >= int64(len(rooms)) || with == int64(i) || rooms[with] != int64(i) {
			return false
		}
	}
	return int64(len(rooms)) == n
}

func checkRooms(t *testing.T, friends [][]int64, rooms []int64) {
	t.Helper()
	want := "false false"
	if isRoomsReference(int64(len(friends)), rooms) {
		want = show(isQuietReference(friends, rooms), true)
	}
	is(t, "AreRooms of "+show(friends, rooms), show(impl.AreRooms(friends, rooms)), want)
}

func TestAllRoomsAreToldToBeQuietOrNot(t *testing.T) {
	d := dice(272)
	for _, friends := range someFriends() {
		n := int64(len(friends))
		all := roomings(n)
		for at, rooms := range all {
			if n < 8 || at%5 == 0 {
				checkRooms(t, friends, rooms)
			}
			changed := slices.Clone(rooms)
			changed[d.from(0, n-1)] = d.from(-1, n)
			checkRooms(t, friends, changed)
		}
		for range 5 {
			checkRooms(t, friends, d.order(n))
		}
	}
	for _, friends := range [][][]int64{friendsAround(2), fourFriends(), noRooms()} {
		for length := int64(1); length <= 4; length++ {
			for _, rooms := range ownings(6, length) {
				for at := range rooms {
					rooms[at]-- // from -1 to 4
				}
				checkRooms(t, friends, rooms)
			}
		}
	}
}

func TestRoomsAtTheEdges(t *testing.T) {
	six := [][]int64{{1, 2, 3, 4, 5}, {0, 2, 3, 4, 5}, {3, 0, 1, 4, 5}, {2, 0, 1, 4, 5}, {5, 0, 1, 2, 3}, {4, 0, 1, 2, 3}}
	both := [][]int64{{1, 3, 2}, {2, 0, 3}, {3, 1, 0}, {0, 2, 1}} // quiet in two ways
	for _, c := range []struct {
		friends [][]int64
		first   string
		rooms   []int64
		quiet   string
	}{
		{friendsAround(2), "[1 0] true", []int64{1, 0}, "true true"},
		{friendsAround(2), "[1 0] true", []int64{0, 1}, "false false"},
		{friendsAround(2), "[1 0] true", []int64{-1, -1}, "false false"},
		{friendsAround(2), "[1 0] true", []int64{1, 1}, "false false"},
		{friendsAround(2), "[1 0] true", nil, "false false"},
		{fourFriends(), "[1 0 3 2] true", []int64{1, 0, 3, 2}, "true true"},
		{fourFriends(), "[1 0 3 2] true", []int64{2, 3, 0, 1}, "false true"},
		{fourFriends(), "[1 0 3 2] true", []int64{3, 2, 1, 0}, "false true"},
		{fourFriends(), "[1 0 3 2] true", []int64{0, 1, 2, 3}, "false false"}, // each one with itself
		{fourFriends(), "[1 0 3 2] true", []int64{1, 2, 3, 0}, "false false"}, // not two of one another
		{fourFriends(), "[1 0 3 2] true", []int64{1, 0, 2, 3}, "false false"},
		{fourFriends(), "[1 0 3 2] true", []int64{1, 0, -1, -1}, "false false"}, // two in no room
		{fourFriends(), "[1 0 3 2] true", []int64{1, 0}, "false false"},
		{fourFriends(), "[1 0 3 2] true", []int64{1, 0, 3, 2, 5, 4}, "false false"},
		{noRooms(), "[] false", []int64{1, 0, 3, 2}, "false true"},
		{noRooms(), "[] false", []int64{2, 3, 0, 1}, "false true"},
		{noRooms(), "[] false", []int64{3, 2, 1, 0}, "false true"},
		{both, "[1 0 3 2] true", []int64{1, 0, 3, 2}, "true true"},
		{both, "[1 0 3 2] true", []int64{3, 2, 1, 0}, "true true"},
		{both, "[1 0 3 2] true", []int64{2, 3, 0, 1}, "false true"},
		{six, "[1 0 3 2 5 4] true", []int64{1, 0, 3, 2, 5, 4}, "true true"},
		{six, "[1 0 3 2 5 4] true", []int64{1, 0, 4, 5, 2, 3}, "false true"},
	} {
		is(t, "RoomsOf of "+show(c.friends), show(impl.RoomsOf(c.friends)), c.first)
		is(t, "AreRooms of "+show(c.friends, c.rooms), show(impl.AreRooms(c.friends, c.rooms)), c.quiet)
		checkRooms(t, c.friends, c.rooms)
	}
}

func TestFriendsHaveLimits(t *testing.T) {
	for _, friends := range wrongFriends() {
		n := int64(len(friends))
		is(t, "RoomsOf of "+show(friends), show(impl.RoomsOf(friends)), "[] false")
		rooms := numbersTo(n)
		for at := range rooms {
			rooms[at] ^= 1
		}
		for _, list := range [][]int64{rooms, nil, {1, 0}, {1, 0, 3, 2}} {
			is(t, "AreRooms of "+show(friends, list), show(impl.AreRooms(friends, list)), "false false")
		}
	}
	for n := int64(2); n <= 12; n++ {
		rooms := numbersTo(n)
		for at := range rooms {
			rooms[at] ^= 1
		}
		_, ok := impl.AreRooms(friendsAround(n), rooms)
		is(t, "whether there are so many friends: "+show(n), show(ok), show(n <= 8 && n%2 == 0))
	}
	for _, friends := range [][][]int64{fourFriends(), friendsAround(8)} {
		for _, at := range []int{0, 1, len(friends) - 1} {
			for _, wrong := range wrongPlayers(int64(len(friends))) {
				rooms, _ := quietReference(friends)
				rooms[at] = wrong
				is(t, "AreRooms of "+show(friends, rooms), show(impl.AreRooms(friends, rooms)), "false false")
			}
		}
	}
}
