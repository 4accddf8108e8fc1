package tests

import (
	"slices"

	"loop.example/g01365/impl"
)

// noWishes is what functions show that fail to return wishes.
const noWishes = "{[] []} false"

// twoPairs are those of the document's example, with two stable matches.
func twoPairs() impl.Wishes {
	return impl.Wishes{Left: [][]int64{{0, 1}, {1, 0}}, Right: [][]int64{{1, 0}, {0, 1}}}
}

// tenStable are four pairs with ten stable matches.
func tenStable() impl.Wishes {
	return impl.Wishes{
		Left:  [][]int64{{0, 1, 2, 3}, {1, 0, 3, 2}, {2, 3, 0, 1}, {3, 2, 1, 0}},
		Right: [][]int64{{3, 2, 1, 0}, {2, 3, 0, 1}, {1, 0, 3, 2}, {0, 1, 2, 3}},
	}
}

// sixteenStable are five pairs with sixteen stable matches, more than any others.
func sixteenStable() impl.Wishes {
	return impl.Wishes{
		Left:  [][]int64{{1, 0, 2, 3, 4}, {2, 4, 1, 3, 0}, {3, 2, 0, 1, 4}, {0, 1, 4, 3, 2}, {2, 3, 4, 0, 1}},
		Right: [][]int64{{1, 4, 2, 0, 3}, {4, 2, 1, 3, 0}, {3, 0, 2, 4, 1}, {0, 3, 4, 1, 2}, {2, 4, 0, 3, 1}},
	}
}

// threeHouses are those of the document's example, which change hands.
func threeHouses() [][]int64 {
	return [][]int64{{1, 0, 2}, {2, 0, 1}, {0, 1, 2}}
}

// threeInARing are the givers of the document's example.
func threeInARing() [][]int64 {
	return [][]int64{{1}, {2}, {0}}
}

// copiesOf returns lists that share no memory with others.
func copiesOf(lists [][]int64) [][]int64 {
	var all [][]int64
	for _, list := range lists {
		all = append(all, slices.Clone(list))
	}
	return all
}

func copyOfWishes(w impl.Wishes) impl.Wishes {
	return impl.Wishes{Left: copiesOf(w.Left), Right: copiesOf(w.Right)}
}

// turnedAround has each list for n begin one later.
func turnedAround(n, first int64) [][]int64 {
	var lists [][]int64
	for i := range n {
		var list []int64
		for k := range n {
			list = append(list, (first+i+k)%n)
		}
		lists = append(lists, list)
	}
	return lists
}

// crosswise are wishes of whom the dearest ones hold one another least dear, so
// that there are n stable matches or more.
func crosswise(n int64) impl.Wishes {
	return impl.Wishes{Left: turnedAround(n, 0), Right: turnedAround(n, 1)}
}

// alikeWishes are those of whom all hold the same ones dear.
func alikeWishes(n int64) impl.Wishes {
	return impl.Wishes{Left: copies(numbersTo(n), int(n)), Right: copies(numbersTo(n), int(n))}
}

// emptyWishes are those of whom nobody takes anybody.
func emptyWishes(n int) impl.Wishes {
	return impl.Wishes{Left: make([][]int64, n), Right: make([][]int64, n)}
}

// fullLists returns n lists of all numbers.
func (d *dice) fullLists(n int64) [][]int64 {
	var lists [][]int64
	for range n {
		lists = append(lists, d.order(n))
	}
	return lists
}

// someLists returns n lists of some numbers, at least so many.
func (d *dice) someLists(n, least int64) [][]int64 {
	lists := d.fullLists(n)
	for i, list := range lists {
		lists[i] = list[:d.from(least, n)]
	}
	return lists
}

// wishes returns wishes of n lists of at least so many on each side.
func (d *dice) wishes(n, least int64) impl.Wishes {
	return impl.Wishes{Left: d.someLists(n, least), Right: d.someLists(n, least)}
}

// someWishes are wishes of all sizes: those of nobody on one side or on both,
// equal ones, those with many stable matches, and those of lists that are short,
// long or full.
func someWishes() []impl.Wishes {
	list := []impl.Wishes{twoPairs(), tenStable(), sixteenStable()}
	d := dice(201)
	for n := int64(1); n <= impl.MaxPairs; n++ {
		empty := make([][]int64, n)
		list = append(list, emptyWishes(int(n)), alikeWishes(n), crosswise(n),
			impl.Wishes{Left: empty, Right: d.fullLists(n)}, impl.Wishes{Left: d.fullLists(n), Right: empty})
		for range 8 {
			list = append(list, d.wishes(n, n), d.wishes(n, n/2), d.wishes(n, 0),
				impl.Wishes{Left: d.fullLists(n), Right: d.someLists(n, 0)}, impl.Wishes{Left: d.someLists(n, 0), Right: d.fullLists(n)})
		}
	}
	return list
}

// toldWishes leaves those of which all stable matches are told.
func toldWishes(list []impl.Wishes) []impl.Wishes {
	return slices.DeleteFunc(slices.Clone(list), func(w impl.Wishes) bool { return len(w.Left) > 5 })
}

// smallWishes are all wishes of two on each side.
func smallWishes() []impl.Wishes {
	lists := [][]int64{nil, {0}, {1}, {0, 1}, {1, 0}}
	var all []impl.Wishes
	for n := range 625 {
		all = append(all, impl.Wishes{Left: [][]int64{lists[n%5], lists[n/5%5]}, Right: [][]int64{lists[n/25%5], lists[n/125]}})
	}
	return all
}

// wrongLists are none of numbers below n, each at most once.
func wrongLists(n int64) [][]int64 {
	all := numbersTo(n)
	lists := [][]int64{{0, 0}, {n - 1, 0, n - 1}, append(slices.Clone(all), 0), append(slices.Clone(all), n-1), make([]int64, 1000)}
	for _, wrong := range wrongPlayers(n) {
		lists = append(lists, []int64{wrong}, append(slices.Clone(all), wrong), append([]int64{wrong}, all[1:]...))
	}
	return lists
}

// wrongWishes are not valid, for one reason each.
func wrongWishes() []impl.Wishes {
	list := []impl.Wishes{{}}
	for _, sides := range [][2]int{{0, 1}, {1, 0}, {1, 2}, {2, 1}, {4, 3}, {5, 6}, {7, 8}, {8, 7}, {8, 0}, {1, 8}, {8, 9}, {9, 8}, {9, 9}, {9, 1}, {0, 9}, {16, 16}, {500, 500}, {1000, 2}} {
		list = append(list, impl.Wishes{Left: make([][]int64, sides[0]), Right: make([][]int64, sides[1])})
	}
	// Full lists of numbers there are, more of them on one side than on the other.
	for _, w := range []impl.Wishes{twoPairs(), crosswise(3), crosswise(5), crosswise(8)} {
		n := len(w.Left)
		list = append(list,
			impl.Wishes{Left: w.Left[:n-1], Right: w.Right}, impl.Wishes{Left: w.Left, Right: w.Right[:n-1]},
			impl.Wishes{Left: append(copiesOf(w.Left), nil), Right: w.Right}, impl.Wishes{Left: w.Left, Right: append(copiesOf(w.Right), []int64{0})})
		for _, wrong := range wrongLists(int64(n)) {
			for _, at := range []int{0, n / 2, n - 1} {
				left, right := copyOfWishes(w), copyOfWishes(w)
				left.Left[at], right.Right[at] = wrong, wrong
				list = append(list, left, right)
			}
		}
	}
	return append(list, impl.Wishes{Left: turnedAround(9, 0), Right: turnedAround(9, 1)})
}

// wrongMatches are none of wishes with so many lists on a side, whoever takes
// whom.
func wrongMatches(n int64) [][]int64 {
	list := [][]int64{copies[int64](-1, int(n-1)), copies[int64](-1, int(n+1)), copies[int64](-1, 1000), numbersTo(n + 1)}
	for _, wrong := range append(wrongPlayers(n)[1:], -2) {
		for _, at := range []int64{0, n / 2, n - 1} {
			match := copies[int64](-1, int(n))
			match[at] = wrong
			list = append(list, match)
		}
	}
	for at := int64(1); at < n; at++ {
		// One number twice.
		match := copies[int64](-1, int(n))
		match[0], match[at] = n-1, n-1
		list = append(list, match)
	}
	return list
}

// match returns a match of those who take one another, now and then of nobody.
func (d *dice) match(w impl.Wishes) []int64 {
	match := copies[int64](-1, len(w.Left))
	for _, i := range d.order(int64(len(match))) {
		for _, j := range d.order(int64(len(match))) {
			if d.from(0, 5) > 0 && haveOneAnother(w, i, j) && !slices.Contains(match, j) {
				match[i] = j
				break
			}
		}
	}
	return match
}

// seats returns seats for n, 0 to most.
func (d *dice) seats(n, most int64) []int64 { return d.integers(n, 0, most) }

// schoolMatch returns a match with seats, now and then of nobody.
func (d *dice) schoolMatch(w impl.Wishes, seats []int64) []int64 {
	match := copies[int64](-1, len(w.Left))
	left := slices.Clone(seats)
	for _, i := range d.order(int64(len(match))) {
		for _, j := range d.order(int64(len(match))) {
			if d.from(0, 5) > 0 && haveOneAnother(w, i, j) && left[j] > 0 {
				match[i] = j
				left[j]--
				break
			}
		}
	}
	return match
}

// wrongSeats are none for n on the right.
func wrongSeats(n int64) [][]int64 {
	list := [][]int64{nil, make([]int64, n-1), copies[int64](1, int(n+1)), copies[int64](8, 1000)}
	for _, wrong := range append(farNumbers(), -1, 9) {
		for _, at := range []int64{0, n / 2, n - 1} {
			seats := copies[int64](1, int(n))
			seats[at] = wrong
			list = append(list, seats)
		}
	}
	return list
}

// wrongOrders are no orders of all numbers from 0 to n - 1.
func wrongOrders(n int64) [][]int64 {
	all := numbersTo(n)
	list := [][]int64{nil, all[1:], all[:n-1], append(slices.Clone(all), 0), append(slices.Clone(all), n), append(slices.Clone(all), -1), make([]int64, 1000)}
	for _, wrong := range wrongPlayers(n) {
		for _, at := range []int64{0, n / 2, n - 1} {
			order := slices.Clone(all)
			order[at] = wrong
			list = append(list, order)
		}
	}
	for at := int64(1); at < n; at++ {
		order := slices.Clone(all)
		order[at] = order[at-1]
		list = append(list, order)
	}
	return list
}

// someHouses are houses of all numbers, with rings of one, and of many.
func someHouses() [][][]int64 {
	list := [][][]int64{threeHouses()}
	d := dice(202)
	for n := int64(1); n <= impl.MaxFriends; n++ {
		list = append(list, turnedAround(n, 0), turnedAround(n, 1), turnedAround(n, n-1), copies(numbersTo(n), int(n)), copies(slices.Concat([]int64{n - 1}, numbersTo(n-1)), int(n)))
		for range 30 {
			list = append(list, d.fullLists(n))
		}
	}
	return list
}

// wrongHouses are none, for one reason each.
func wrongHouses() [][][]int64 {
	list := [][][]int64{nil, {nil}, {{}}, {{1}}, {{0, 0}}, turnedAround(9, 0), make([][]int64, 8), make([][]int64, 1000)}
	for _, houses := range [][][]int64{threeHouses(), turnedAround(1, 0), turnedAround(4, 1), turnedAround(8, 3)} {
		n := len(houses)
		list = append(list, houses[:n-1], append(copiesOf(houses), numbersTo(int64(n))))
		for _, wrong := range wrongOrders(int64(n)) {
			for _, at := range []int{0, n / 2, n - 1} {
				changed := copiesOf(houses)
				changed[at] = wrong
				list = append(list, changed)
			}
		}
	}
	return list
}

// friendsAround has friends who hold those behind them dearest, all around.
func friendsAround(n int64) [][]int64 {
	lists := turnedAround(n, 1)
	for i := range lists {
		lists[i] = lists[i][:n-1]
	}
	return lists
}

// friends returns n friends.
func (d *dice) friends(n int64) [][]int64 {
	lists := d.fullLists(n)
	for i := range lists {
		lists[i] = less1(lists[i], int64(i))
	}
	return lists
}

// noRooms are four friends for whom no rooms are quiet: whoever is with the last
// one holds another one dearer who wants to leave, too.
func noRooms() [][]int64 {
	return [][]int64{{1, 2, 3}, {2, 0, 3}, {0, 1, 3}, {0, 1, 2}}
}

// fourFriends have quiet rooms with their dearest friends.
func fourFriends() [][]int64 {
	return [][]int64{{1, 2, 3}, {0, 2, 3}, {3, 0, 1}, {2, 0, 1}}
}

// someFriends are friends of all numbers.
func someFriends() [][][]int64 {
	list := [][][]int64{fourFriends(), noRooms()}
	d := dice(203)
	for n := int64(2); n <= impl.MaxFriends; n += 2 {
		list = append(list, friendsAround(n))
		for range 60 {
			list = append(list, d.friends(n))
		}
	}
	return list
}

// wrongFriends are none, for one reason each.
func wrongFriends() [][][]int64 {
	list := [][][]int64{nil, {nil}, {{}}, {{1}, {0}, {0}}, {{0}, {1}}, {{1}, {1}}, make([][]int64, 2), make([][]int64, 1000)}
	for _, n := range []int64{1, 3, 5, 7, 9, 10, 16} {
		list = append(list, friendsAround(n))
	}
	for _, friends := range [][][]int64{friendsAround(2), fourFriends(), friendsAround(8)} {
		n := int64(len(friends))
		list = append(list, friends[:n-1], friends[:n-2], append(copiesOf(friends), numbersTo(n)))
		for at := range n {
			list = append(list, replaced(friends, at, append(slices.Clone(friends[at]), at)), // all, and oneself
				replaced(friends, at, append([]int64{at}, friends[at][1:]...)), // oneself for a friend
				replaced(friends, at, friends[at][1:]),
				replaced(friends, at, append(slices.Clone(friends[at]), friends[at][0])),
				replaced(friends, at, append(slices.Clone(friends[at][1:]), n)),
				replaced(friends, at, append(slices.Clone(friends[at][1:]), -1)),
				replaced(friends, at, append(slices.Clone(friends[at][1:]), 1<<32)))
			if n > 2 {
				twice := slices.Clone(friends[at])
				twice[0] = twice[1]
				list = append(list, replaced(friends, at, twice))
			}
		}
	}
	return list
}

// replaced returns lists of which one is another one.
func replaced(lists [][]int64, at int64, list []int64) [][]int64 {
	changed := copiesOf(lists)
	changed[at] = list
	return changed
}

// giveAll has n who can each give to all others.
func giveAll(n int64) [][]int64 {
	var gives [][]int64
	for i := range n {
		gives = append(gives, less1(numbersTo(n), i))
	}
	return gives
}

// gives returns n who can each give to some others, to each one with one of odds.
func (d *dice) gives(n, odds int64) [][]int64 {
	gives := giveAll(n)
	for i, list := range gives {
		gives[i] = slices.DeleteFunc(list, func(int64) bool { return d.from(1, odds) > 1 })
	}
	return gives
}

// someGives are gives of all numbers, with no, few and many rings.
func someGives() [][][]int64 {
	list := [][][]int64{threeInARing()}
	d := dice(204)
	for n := int64(1); n <= impl.MaxFriends; n++ {
		list = append(list, make([][]int64, n), giveAll(n))
		for range 25 {
			list = append(list, d.gives(n, 2), d.gives(n, 3), d.gives(n, 4))
		}
	}
	return list
}

// wrongGives are none, for one reason each.
func wrongGives() [][][]int64 {
	list := [][][]int64{nil, {{0}}, {{1}}, {{-1}}, make([][]int64, 9), make([][]int64, 1000), giveAll(9), {{1}, {2}}}
	for _, gives := range [][][]int64{threeInARing(), giveAll(2), giveAll(5), giveAll(8)} {
		n := int64(len(gives))
		for at := range n {
			give := gives[at]
			list = append(list, replaced(gives, at, numbersTo(n)), // oneself among them
				replaced(gives, at, []int64{at}),
				replaced(gives, at, append(slices.Clone(give), give[len(give)-1])), // one twice
				replaced(gives, at, append([]int64{give[0]}, give...)),
				replaced(gives, at, append(slices.Clone(give), give[0])),
				replaced(gives, at, append(slices.Clone(give), n)),
				replaced(gives, at, append(slices.Clone(give), 1<<32)),
				replaced(gives, at, append([]int64{-1}, give...)),
				replaced(gives, at, append([]int64{-1 << 32}, give...)))
			if len(give) > 1 {
				turned := slices.Clone(give)
				slices.Reverse(turned)
				swapped := slices.Clone(give)
				swapped[0], swapped[1] = swapped[1], swapped[0]
				list = append(list, replaced(gives, at, turned), replaced(gives, at, swapped))
			}
		}
	}
	return list
}
