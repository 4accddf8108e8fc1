package tests

import (
	"slices"

	"loop.example/g01365/impl"
)

// The references of this file tell who is dearer by places in lists, and find
// what is asked for among all matches, sets or rings, or in another way than by
// asking, turns and rounds.

// rank is the place of one in a list, or -1.
func rank(list []int64, one int64) int64 { return int64(slices.Index(list, one)) }

func haveOneAnother(w impl.Wishes, i, j int64) bool {
	return rank(w.Left[i], j) >= 0 && rank(w.Right[j], i) >= 0
}

// holds reports whether one is in a list, and before another one, if that is not -1.
func holds(list []int64, one, than int64) bool {
	at := rank(list, one)
	return at >= 0 && (than == -1 || at < rank(list, than))
}

func isMatchReference(w impl.Wishes, match []int64) bool {
	seen := map[int64]bool{}
	for i, j := range match {
		if j == -1 {
			continue
		}
		if j < 0 || j >= int64(len(w.Right)) || seen[j] || i >= len(w.Left) || !haveOneAnother(w, int64(i), j) {
			return false
		}
		seen[j] = true
	}
	return len(match) == len(w.Left)
}

// couplesOf returns all pairs of a number on the left and one on the right.
func couplesOf(w impl.Wishes) [][2]int64 {
	var list [][2]int64
	for i := range w.Left {
		for j := range w.Right {
			list = append(list, [2]int64{int64(i), int64(j)})
		}
	}
	return list
}

// blockReference returns the first pair that blocks, and whether there is one.
func blockReference(w impl.Wishes, match []int64) (int64, int64, bool) {
	for _, c := range couplesOf(w) {
		i, j := c[0], c[1]
		if holds(w.Left[i], j, match[i]) && holds(w.Right[j], i, rank(match, j)) {
			return i, j, true
		}
	}
	return 0, 0, false
}

func isStableReference(w impl.Wishes, match []int64) bool {
	_, _, isBlocked := blockReference(w, match)
	return !isBlocked
}

// matchesReference returns all matches, the least one first.
func matchesReference(w impl.Wishes) [][]int64 {
	matches := [][]int64{nil}
	for i := range int64(len(w.Left)) {
		var longer [][]int64
		for _, match := range matches {
			longer = append(longer, append(slices.Clone(match), -1))
			for j := range int64(len(w.Right)) {
				if !slices.Contains(match, j) && haveOneAnother(w, i, j) {
					longer = append(longer, append(slices.Clone(match), j))
				}
			}
		}
		matches = longer
	}
	return matches
}

func stableReference(w impl.Wishes) [][]int64 {
	return slices.DeleteFunc(matchesReference(w), func(match []int64) bool { return !isStableReference(w, match) })
}

// bestForLeft strikes out of all lists those who can't have one another, until
// the first ones of the lists on the left are all different.
func bestForLeft(left, right [][]int64) []int64 {
	left, right = copiesOf(left), copiesOf(right)
	strike := func(i, j int64) { left[i], right[j] = less1(left[i], j), less1(right[j], i) }
	for i, list := range left {
		for _, j := range slices.Clone(list) {
			if rank(right[j], int64(i)) < 0 {
				strike(int64(i), j)
			}
		}
	}
	for again := true; again; {
		again = false
		for i := range left {
			if len(left[i]) == 0 {
				continue
			}
			j := left[i][0]
			for _, worse := range slices.Clone(right[j][rank(right[j], int64(i))+1:]) {
				strike(worse, j)
				again = true
			}
		}
	}
	match := copies[int64](-1, len(left))
	for i, list := range left {
		if len(list) > 0 {
			match[i] = list[0]
		}
	}
	return match
}

// asksReference counts those up to whom each one has asked, or all.
func asksReference(w impl.Wishes, match []int64) int64 {
	asks := 0
	for i, list := range w.Left {
		if match[i] == -1 {
			asks += len(list)
		} else {
			asks += int(rank(list, match[i])) + 1
		}
	}
	return int64(asks)
}

// dearestOf returns the dearest or the least dear one of two of a list, nobody
// being least dear.
func dearestOf(list []int64, a, b int64, isLeast bool) int64 {
	if (a == -1 || b != -1 && rank(list, b) < rank(list, a)) != isLeast {
		return b
	}
	return a
}

// mixedReference has for each one on the left the dearer or the less dear one.
func mixedReference(w impl.Wishes, a, b []int64, isLeast bool) []int64 {
	var match []int64
	for i, list := range w.Left {
		match = append(match, dearestOf(list, a[i], b[i], isLeast))
	}
	return match
}

// nextReference returns who follows i, or -1.
func nextReference(w impl.Wishes, match []int64, i int64) int64 {
	if match[i] == -1 {
		return -1
	}
	for place := rank(w.Left[i], match[i]) + 1; place < int64(len(w.Left[i])); place++ {
		j := w.Left[i][place]
		if holder := rank(match, j); holds(w.Right[j], i, holder) {
			return holder
		}
	}
	return -1
}

// isRingOf reports whether each one of a ring is followed by its next one, and
// the last one by the first one, which is the least one.
func isRingOf(ring []int64, next func(i int64) int64) bool {
	for at, i := range ring {
		if next(i) != ring[(at+1)%len(ring)] {
			return false
		}
	}
	return len(ring) > 0 && ring[0] == slices.Min(ring)
}

// ringsAmong returns all rings of the numbers from 0 to n - 1, in order: each
// number is followed to the n-th one behind it.
func ringsAmong(n int64, next func(i int64) int64) [][]int64 {
	var rings [][]int64
	for first := range n {
		var ring []int64
		for i := first; i != -1 && !slices.Contains(ring, i) && int64(len(ring)) < n; i = next(i) {
			ring = append(ring, i)
		}
		if isRingOf(ring, next) {
			rings = append(rings, ring)
		}
	}
	return rings
}

func turnsOfMatch(w impl.Wishes, match []int64) [][]int64 {
	return ringsAmong(int64(len(match)), func(i int64) int64 { return nextReference(w, match, i) })
}

// takenTurn returns a match behind a turn, from the last one of it to the first.
func takenTurn(match, turn []int64) []int64 {
	behind := slices.Clone(match)
	for at := len(turn) - 1; at >= 0; at-- {
		behind[turn[at]] = match[turn[(at+1)%len(turn)]]
	}
	return behind
}

// placesReference is the sum of the places on both sides.
func placesReference(w impl.Wishes, match []int64) int64 {
	sum := int64(0)
	for i, j := range match {
		if j != -1 {
			sum += rank(w.Left[i], j)
		}
	}
	for j, list := range w.Right {
		if i := rank(match, int64(j)); i != -1 {
			sum += rank(list, i)
		}
	}
	return sum
}

func fairReference(w impl.Wishes) ([]int64, int64) {
	var fair []int64
	least := int64(1000)
	for _, match := range stableReference(w) {
		if sum := placesReference(w, match); sum < least {
			fair, least = match, sum
		}
	}
	return fair, least
}

// schoolReference makes as many of each one on the right as it has seats, each
// of whom takes one, and finds pairs.
func schoolReference(w impl.Wishes, seats []int64) []int64 {
	var schools []int64
	left, right := make([][]int64, len(w.Left)), [][]int64(nil)
	copiesOfOne := map[int64][]int64{}
	for j, count := range seats {
		for range count {
			copiesOfOne[int64(j)] = append(copiesOfOne[int64(j)], int64(len(schools)))
			schools, right = append(schools, int64(j)), append(right, w.Right[j])
		}
	}
	for i, list := range w.Left {
		for _, j := range list {
			left[i] = append(left[i], copiesOfOne[j]...)
		}
	}
	match := bestForLeft(left, right)
	for i, j := range match {
		if j != -1 {
			match[i] = schools[j]
		}
	}
	return match
}

// pupilsOf returns those who have j.
func pupilsOf(match []int64, j int64) []int64 {
	var list []int64
	for i, other := range match {
		if other == j {
			list = append(list, int64(i))
		}
	}
	return list
}

func isSchoolMatchReference(w impl.Wishes, seats, match []int64) bool {
	for i, j := range match {
		if j == -1 {
			continue
		}
		if i >= len(w.Left) || j < 0 || j >= int64(len(w.Right)) || !haveOneAnother(w, int64(i), j) || int64(len(pupilsOf(match, j))) > seats[j] {
			return false
		}
	}
	return len(match) == len(w.Left)
}

func schoolBlockReference(w impl.Wishes, seats, match []int64) (int64, int64, bool) {
	for _, c := range couplesOf(w) {
		i, j := c[0], c[1]
		pupils := pupilsOf(match, j)
		isWanted := int64(len(pupils)) < seats[j] && rank(w.Right[j], i) >= 0
		for _, other := range pupils {
			isWanted = isWanted || holds(w.Right[j], i, other)
		}
		if isWanted && holds(w.Left[i], j, match[i]) {
			return i, j, true
		}
	}
	return 0, 0, false
}

// firstLeft returns the first one of a list that is not out.
func firstLeft(list []int64, out map[int64]bool) int64 {
	for _, one := range list {
		if !out[one] {
			return one
		}
	}
	return -1
}

// houseRoundsReference takes one ring after another, each one from the last
// number that is left on.
func houseRoundsReference(wishes [][]int64) []int64 {
	n := len(wishes)
	has, out := copies[int64](-1, n), map[int64]bool{}
	for last := int64(n - 1); last >= 0; last-- {
		if out[last] {
			continue
		}
		// So many steps lead into a ring.
		at := last
		for range n {
			at = firstLeft(wishes[at], out)
		}
		for has[at] == -1 {
			has[at] = firstLeft(wishes[at], out)
			at = has[at]
		}
		for i, house := range has {
			out[int64(i)] = house != -1
		}
		last = int64(n)
	}
	return has
}

func houseTurnsReference(wishes [][]int64, order []int64) []int64 {
	has, out := make([]int64, len(wishes)), map[int64]bool{}
	for _, i := range order {
		has[i] = firstLeft(wishes[i], out)
		out[has[i]] = true
	}
	return has
}

// isBetterFor reports whether houses, one for each one of a team, are less dear
// to nobody, and dearer to somebody.
func isBetterFor(wishes [][]int64, match, team, houses []int64) bool {
	isDearer := false
	for at, i := range team {
		now, before := rank(wishes[i], houses[at]), rank(wishes[i], match[i])
		if now > before {
			return false
		}
		isDearer = isDearer || now < before
	}
	return isDearer
}

// houseBlockReference tries all orders of the houses of all sets.
func houseBlockReference(wishes [][]int64, match []int64) ([]int64, bool) {
	for _, team := range teamsOf(int64(len(wishes))) {
		for _, order := range orders(int64(len(team))) {
			var houses []int64
			for _, at := range order {
				houses = append(houses, team[at])
			}
			if isBetterFor(wishes, match, team, houses) {
				return team, true
			}
		}
	}
	return nil, false
}

// roomings returns all rooms of n friends, the least ones first.
func roomings(n int64) [][]int64 {
	if n == 0 {
		return [][]int64{nil}
	}
	var list [][]int64
	for other := int64(1); other < n; other++ {
		// The others, without the first one and this one, are in rooms of their own.
		others := less1(numbersTo(n), other)[1:]
		for _, rest := range roomings(n - 2) {
			rooms := make([]int64, n)
			rooms[0], rooms[other] = other, 0
			for at, with := range rest {
				rooms[others[at]] = others[with]
			}
			list = append(list, rooms)
		}
	}
	return list
}

func isQuietReference(friends [][]int64, rooms []int64) bool {
	for i, list := range friends {
		for _, k := range list[:rank(list, rooms[i])] {
			if rank(friends[k], int64(i)) < rank(friends[k], rooms[k]) {
				return false
			}
		}
	}
	return true
}

func quietReference(friends [][]int64) ([]int64, bool) {
	for _, rooms := range roomings(int64(len(friends))) {
		if isQuietReference(friends, rooms) {
			return rooms, true
		}
	}
	return nil, false
}

// givenRings looks at all lists of 2 to long numbers.
func givenRings(gives [][]int64, long int64) [][]int64 {
	n := int64(len(gives))
	var rings [][]int64
	for length := int64(2); length <= long; length++ {
		for _, list := range ownings(n, length) {
			isRing := list[0] == slices.Min(list) && len(union(list, nil)) == len(list)
			for at, one := range list {
				isRing = isRing && slices.Contains(gives[one], list[(at+1)%len(list)])
			}
			if isRing {
				rings = append(rings, list)
			}
		}
	}
	return rings
}

// mostReference tries all sets of rings, the ones with the first ring last.
func mostReference(rings [][]int64) (int64, [][]int64) {
	if len(rings) == 0 {
		return 0, nil
	}
	// Of a set with the last ring and one without it, the latter has the less number.
	last := rings[len(rings)-1]
	most, best := mostReference(rings[:len(rings)-1])
	others := slices.DeleteFunc(slices.Clone(rings[:len(rings)-1]), func(ring []int64) bool { return len(common(ring, last)) > 0 })
	if with, taken := mostReference(others); with+int64(len(last)) > most {
		return with + int64(len(last)), append(slices.Clone(taken), last)
	}
	return most, best
}
