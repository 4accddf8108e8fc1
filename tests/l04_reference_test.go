package tests

import (
	"math"
	"slices"

	"loop.example/g01365/impl"
)

// The references of this file have parts as lists of things, and say with loops
// over these what the document says in words. Each operation of 32-bit numbers
// is one of 64-bit numbers that is narrowed.

func less32(x, y float32) float32 { return float32(float64(x) - float64(y)) }
func over32(x, y float32) float32 { return float32(float64(x) / float64(y)) }

func valueOf(v impl.Values, player, thing int64) int64 { return v.Worths[player*v.Things+thing] }

// rowOf returns what all things are worth to a player.
func rowOf(v impl.Values, player int64) []int64 {
	return slices.Clone(v.Worths[player*v.Things:][:v.Things])
}

func sum(list []int64) int64 {
	total := int64(0)
	for _, n := range list {
		total += n
	}
	return total
}

// partsOf returns the things of each player; owners that are none own nothing.
func partsOf(players int64, owners []int64) [][]int64 {
	parts := make([][]int64, players)
	for thing, owner := range owners {
		if owner >= 0 {
			parts[owner] = append(parts[owner], int64(thing))
		}
	}
	return parts
}

// ownersOf returns the owners of things, and -1 for those in no part.
func ownersOf(parts [][]int64, things int64) []int64 {
	owners := copies[int64](-1, int(things))
	for player, part := range parts {
		for _, thing := range part {
			owners[thing] = int64(player)
		}
	}
	return owners
}

func partWorth(v impl.Values, player int64, part []int64) int64 {
	worth := int64(0)
	for _, thing := range part {
		worth += valueOf(v, player, thing)
	}
	return worth
}

func ownReference(v impl.Values, owners []int64) []int64 {
	var worths []int64
	for i, part := range partsOf(v.Players, owners) {
		worths = append(worths, partWorth(v, int64(i), part))
	}
	return worths
}

func envyReference(v impl.Values, owners []int64) []int64 {
	parts := partsOf(v.Players, owners)
	var table []int64
	for i := range v.Players {
		for j := range v.Players {
			table = append(table, partWorth(v, i, parts[j])-partWorth(v, i, parts[i]))
		}
	}
	return table
}

func isEnvyFreeReference(v impl.Values, owners []int64) bool {
	for _, envy := range envyReference(v, owners) {
		if envy > 0 {
			return false
		}
	}
	return true
}

// isFreeUpToOneReference takes away each thing of those who are envied.
func isFreeUpToOneReference(v impl.Values, owners []int64) bool {
	parts := partsOf(v.Players, owners)
	for i := range v.Players {
		own := partWorth(v, i, parts[i])
		for j := range v.Players {
			isFree := partWorth(v, i, parts[j]) <= own
			for _, thing := range parts[j] {
				isFree = isFree || partWorth(v, i, less1(parts[j], thing)) <= own
			}
			if !isFree {
				return false
			}
		}
	}
	return true
}

func isEvenReference(v impl.Values, owners []int64) bool {
	for i, worth := range ownReference(v, owners) {
		if v.Players*worth < sum(rowOf(v, int64(i))) {
			return false
		}
	}
	return true
}

// turnsReference has for each player all things in the order of its wishes.
func turnsReference(v impl.Values, order []int64) []int64 {
	owners := copies[int64](-1, int(v.Things))
	for turn := range v.Things {
		player := order[turn%int64(len(order))]
		wishes := numbersTo(v.Things)
		slices.SortStableFunc(wishes, func(a, b int64) int {
			return int(valueOf(v, player, b) - valueOf(v, player, a))
		})
		for owners[wishes[0]] >= 0 {
			wishes = wishes[1:]
		}
		owners[wishes[0]] = player
	}
	return owners
}

// roundsReference gives things, and counts how often parts are moved along.
func roundsReference(v impl.Values) ([]int64, int) {
	parts, moves := make([][]int64, v.Players), 0
	envies := func(i, j int64) bool { return partWorth(v, i, parts[j]) > partWorth(v, i, parts[i]) }
	// firstWho returns the first player of whom something is told, or -1.
	firstWho := func(is func(i int64) bool) int64 {
		return int64(slices.IndexFunc(numbersTo(v.Players), is))
	}
	envier := func(j int64) int64 { return firstWho(func(i int64) bool { return envies(i, j) }) }
	for thing := range v.Things {
		for firstWho(func(j int64) bool { return envier(j) < 0 }) < 0 {
			// So many steps lead into a round, and it has no more players.
			at := int64(0)
			for range v.Players {
				at = envier(at)
			}
			moved := slices.Clone(parts)
			for last := at; ; at = envier(at) {
				moved[envier(at)] = parts[at]
				if envier(at) == last {
					break
				}
			}
			parts = moved
			moves++
		}
		free := firstWho(func(j int64) bool { return envier(j) < 0 })
		parts[free] = append(slices.Clone(parts[free]), thing)
	}
	return ownersOf(parts, v.Things), moves
}

func numberOfOwnings(v impl.Values) int64 {
	count := int64(1)
	for range v.Things {
		count *= v.Players
	}
	return count
}

// ownings returns all owners, as numbers with a digit for each thing.
func ownings(players, things int64) [][]int64 {
	list := [][]int64{nil}
	for range things {
		var longer [][]int64
		for _, owners := range list {
			for player := range players {
				longer = append(longer, append(slices.Clone(owners), player))
			}
		}
		list = longer
	}
	return list
}

// bestReference returns the first owners with the greatest one of what is told
// of the worths of all parts.
func bestReference(v impl.Values, tell func(worths []int64) int64) ([]int64, int64) {
	var best []int64
	most := int64(-1)
	for _, owners := range ownings(v.Players, v.Things) {
		if told := tell(ownReference(v, owners)); told > most {
			best, most = owners, told
		}
	}
	return best, most
}

func least(list []int64) int64 {
	sorted := slices.Clone(list)
	slices.Sort(sorted)
	return sorted[0]
}

func product(list []int64) int64 {
	all := list[0]
	for _, n := range list[1:] {
		all *= n
	}
	return all
}

// leastPartReference tries all parts as one player sees them.
func leastPartReference(v impl.Values, player int64) int64 {
	most := int64(0)
	for _, owners := range ownings(v.Players, v.Things) {
		var worths []int64
		for _, part := range partsOf(v.Players, owners) {
			worths = append(worths, partWorth(v, player, part))
		}
		most = max(most, least(worths))
	}
	return most
}

// split is what SplitOne returns.
type split struct {
	owners      []int64
	thing, p, q int64
}

// splitReference moves the things of the one with more in the order of their
// quotients, which differ as 64-bit numbers if they differ.
func splitReference(first, second []int64) split {
	worths := [][]int64{first, second}
	s := split{thing: -1, q: 1}
	sums := []int64{0, 0}
	for thing := range first {
		owner := 0
		if second[thing] > first[thing] {
			owner = 1
		}
		s.owners = append(s.owners, int64(owner))
		sums[owner] += worths[owner][thing]
	}
	giver := 0
	if sums[1] > sums[0] {
		giver = 1
	}
	var going []int64
	for thing, owner := range s.owners {
		if owner == int64(giver) {
			going = append(going, int64(thing))
		}
	}
	quotient := func(thing int64) float64 {
		if worths[1-giver][thing] == 0 {
			return math.Inf(1)
		}
		return float64(worths[giver][thing]) / float64(worths[1-giver][thing])
	}
	slices.SortStableFunc(going, func(a, b int64) int {
		switch {
		case quotient(a) < quotient(b):
			return -1
		case quotient(a) > quotient(b):
			return 1
		}
		return 0
	})
	for _, thing := range going {
		gives, takes := worths[giver][thing], worths[1-giver][thing]
		switch {
		case sums[giver] == sums[1-giver]:
			return s
		case sums[giver]-gives < sums[1-giver]+takes:
			s.thing = thing
			s.p, s.q = lowest(sums[giver]-sums[1-giver], gives+takes)
			return s
		}
		s.owners[thing] = int64(1 - giver)
		sums[giver], sums[1-giver] = sums[giver]-gives, sums[1-giver]+takes
	}
	return s
}

// lowest divides two numbers by all common factors.
func lowest(p, q int64) (int64, int64) {
	for factor := q; factor > 1; factor-- {
		if p%factor == 0 && q%factor == 0 {
			return lowest(p/factor, q/factor)
		}
	}
	return p, q
}

// orders returns all orders of players, the least one first.
func orders(players int64) [][]int64 {
	list := [][]int64{nil}
	for range players {
		var longer [][]int64
		for _, order := range list {
			for player := range players {
				if !slices.Contains(order, player) {
					longer = append(longer, append(slices.Clone(order), player))
				}
			}
		}
		list = longer
	}
	return list
}

func roomsReference(v impl.Values) []int64 {
	var best []int64
	most := int64(-1)
	for _, rooms := range orders(v.Players) {
		all := int64(0)
		for i, room := range rooms {
			all += valueOf(v, int64(i), room)
		}
		if all > most {
			best, most = rooms, all
		}
	}
	return best
}

// pricesReference has the longest ways between rooms, each step of which is what
// one would gain by another room.
func pricesReference(v impl.Values, rooms []int64, total int64) []int64 {
	n := v.Players
	far := make([][]int64, n)
	for i := range n {
		far[i] = make([]int64, n)
	}
	for i, room := range rooms {
		for j := range n {
			far[room][j] = valueOf(v, int64(i), j) - valueOf(v, int64(i), room)
		}
	}
	for over := range n {
		for from := range n {
			for to := range n {
				far[from][to] = max(far[from][to], far[from][over]+far[over][to])
			}
		}
	}
	rises, all := make([]int64, n), int64(0)
	for to := range n {
		for from := range n {
			rises[to] = max(rises[to], far[from][to])
		}
		all += rises[to]
	}
	var prices []int64
	for _, rise := range rises {
		prices = append(prices, n*rise+total-all)
	}
	return prices
}

func isFairReference(v impl.Values, rooms, prices []int64) bool {
	for i, own := range rooms {
		for room := range v.Players {
			lost := v.Players*(valueOf(v, int64(i), room)-valueOf(v, int64(i), own)) - (prices[room] - prices[own])
			if lost > 0 {
				return false
			}
		}
	}
	return true
}

func pieceOf(c impl.Cake, player, piece int64) float32 {
	return float32(c.Worths[player*c.Pieces+piece])
}

func cakeReference(c impl.Cake, player int64, from, to float32) float32 {
	worth := float32(0)
	for piece := range c.Pieces {
		begin, end := float32(piece), float32(piece+1)
		if from > begin {
			begin = from
		}
		if to < end {
			end = to
		}
		if long := less32(end, begin); long > 0 {
			worth = plus(worth, times(pieceOf(c, player, piece), long))
		}
	}
	return worth
}

func allCake(c impl.Cake, player int64) float32 {
	return cakeReference(c, player, 0, float32(c.Pieces))
}

func markReference(c impl.Cake, player int64, from, left float32) float32 {
	for piece := range c.Pieces {
		begin, end, worth := float32(piece), float32(piece+1), pieceOf(c, player, piece)
		if !(end > from) {
			continue
		}
		if from > begin {
			begin = from
		}
		has := times(worth, less32(end, begin))
		if has >= left && worth > 0 {
			return plus(begin, over32(left, worth))
		}
		left = less32(left, has)
	}
	return float32(c.Pieces)
}

func chooseReference(c impl.Cake) (float32, bool) {
	cut := markReference(c, 0, 0, times(allCake(c, 0), 0.5))
	return cut, !(cakeReference(c, 1, 0, cut) < cakeReference(c, 1, cut, float32(c.Pieces)))
}

// knifeReference sorts those that are left by their marks.
func knifeReference(c impl.Cake) ([]int64, []float32) {
	owners, cuts := []int64{}, []float32{0}
	left := numbersTo(c.Players)
	for len(left) > 1 {
		mark := func(player int64) float32 {
			return markReference(c, player, cuts[len(cuts)-1], over32(allCake(c, player), float32(c.Players)))
		}
		slices.SortFunc(left, func(a, b int64) int {
			switch {
			case mark(a) < mark(b):
				return -1
			case mark(a) > mark(b):
				return 1
			}
			return int(a - b)
		})
		owners, cuts, left = append(owners, left[0]), append(cuts, mark(left[0])), left[1:]
	}
	return append(owners, left[0]), append(cuts[1:], float32(c.Pieces))
}

func cakeEnvyReference(c impl.Cake, owners []int64, cuts []float32) []float32 {
	begins, ends := make([]float32, c.Players), make([]float32, c.Players)
	begin := float32(0)
	for part, owner := range owners {
		begins[owner], ends[owner] = begin, cuts[part]
		begin = cuts[part]
	}
	var table []float32
	for i := range c.Players {
		for j := range c.Players {
			table = append(table, less32(cakeReference(c, i, begins[j], ends[j]), cakeReference(c, i, begins[i], ends[i])))
		}
	}
	return table
}
