package tests

import (
	"math"
	"slices"

	"loop.example/g01365/impl"
)

// The references of this file have sets as ascending lists of players, and say
// with loops over these what the document says in words.

// teamsOf returns all sets of players in the order of their numbers.
func teamsOf(players int64) [][]int64 {
	teams := [][]int64{nil}
	for player := range players {
		for _, team := range teams[:len(teams):len(teams)] {
			teams = append(teams, append(slices.Clone(team), player))
		}
	}
	return teams
}

// numberOf returns the number of a set.
func numberOf(team []int64) int64 {
	number := int64(0)
	for _, player := range team {
		power := int64(1)
		for range player {
			power *= 2
		}
		number += power
	}
	return number
}

func worthOf(w impl.Worths, team []int64) int64 { return w.Worths[numberOf(team)] }

// union returns all players of both sets.
func union(a, b []int64) []int64 {
	all := append(slices.Clone(a), b...)
	slices.Sort(all)
	return slices.Compact(all)
}

// common returns the players that are in both sets.
func common(a, b []int64) []int64 {
	var both []int64
	for _, player := range a {
		if slices.Contains(b, player) {
			both = append(both, player)
		}
	}
	return both
}

// less1 returns a set without a player.
func less1(team []int64, player int64) []int64 {
	var rest []int64
	for _, other := range team {
		if other != player {
			rest = append(rest, other)
		}
	}
	return rest
}

func isPart(part, team []int64) bool { return len(common(part, team)) == len(part) }

func isValidReference(players int64, worths []int64) bool {
	for _, worth := range worths {
		if worth < -10000 || worth > 10000 {
			return false
		}
	}
	sizes := map[int64]int{1: 2, 2: 4, 3: 8, 4: 16, 5: 32, 6: 64}
	return sizes[players] > 0 && sizes[players] == len(worths) && worths[0] == 0
}

// showIfValid tells worths, or what is returned in place of those that are not.
func showIfValid(players int64, worths []int64) string {
	if !isValidReference(players, worths) {
		return noWorths
	}
	return show(impl.Worths{Players: players, Worths: worths}, true)
}

// dividendsReference takes from each worth the dividends of all lesser parts.
func dividendsReference(w impl.Worths) []int64 {
	dividends := make([]int64, len(w.Worths))
	for _, team := range teamsOf(w.Players) {
		rest := worthOf(w, team)
		for _, part := range teamsOf(w.Players) {
			if isPart(part, team) && len(part) < len(team) {
				rest -= dividends[numberOf(part)]
			}
		}
		dividends[numberOf(team)] = rest
	}
	return dividends
}

// partSums adds dividends to all sets with their players.
func partSums(players int64, dividends []int64) []int64 {
	sums := make([]int64, len(dividends))
	for _, part := range teamsOf(players) {
		for _, team := range teamsOf(players) {
			if isPart(part, team) {
				sums[numberOf(team)] += dividends[numberOf(part)]
			}
		}
	}
	return sums
}

func moreReference(w impl.Worths, order []int64) []int64 {
	more := make([]int64, w.Players)
	for at, player := range order {
		before, with := slices.Clone(order[:at]), slices.Clone(order[:at+1])
		more[player] = worthOf(w, with) - worthOf(w, before)
	}
	return more
}

func factorial(n int) int64 {
	if n == 0 {
		return 1
	}
	return int64(n) * factorial(n-1)
}

// sharesReference counts in how many orders a set comes just before a player.
func sharesReference(w impl.Worths) []int64 {
	shares := make([]int64, w.Players)
	for player := range w.Players {
		for _, team := range teamsOf(w.Players) {
			if !slices.Contains(team, player) {
				orders := factorial(len(team)) * factorial(int(w.Players)-len(team)-1)
				shares[player] += orders * (worthOf(w, union(team, []int64{player})) - worthOf(w, team))
			}
		}
	}
	return shares
}

// swingsReference adds each worth for its players, and takes it from the others.
func swingsReference(w impl.Worths) []int64 {
	swings := make([]int64, w.Players)
	for _, team := range teamsOf(w.Players) {
		for player := range w.Players {
			if slices.Contains(team, player) {
				swings[player] += worthOf(w, team)
			} else {
				swings[player] -= worthOf(w, team)
			}
		}
	}
	return swings
}

func isNullReference(w impl.Worths, player int64) bool {
	for _, team := range teamsOf(w.Players) {
		if worthOf(w, team) != worthOf(w, less1(team, player)) {
			return false
		}
	}
	return true
}

func areAlikeReference(w impl.Worths, i, k int64) bool {
	for _, team := range teamsOf(w.Players) {
		if slices.Contains(team, i) || slices.Contains(team, k) {
			continue
		}
		if worthOf(w, union(team, []int64{i})) != worthOf(w, union(team, []int64{k})) {
			return false
		}
	}
	return true
}

func isRisingReference(w impl.Worths) bool {
	for _, team := range teamsOf(w.Players) {
		for _, part := range teamsOf(w.Players) {
			if isPart(part, team) && worthOf(w, team) < worthOf(w, part) {
				return false
			}
		}
	}
	return true
}

func isJoiningReference(w impl.Worths) bool {
	for _, a := range teamsOf(w.Players) {
		for _, b := range teamsOf(w.Players) {
			if len(common(a, b)) == 0 && worthOf(w, union(a, b)) < worthOf(w, a)+worthOf(w, b) {
				return false
			}
		}
	}
	return true
}

func isConvexReference(w impl.Worths) bool {
	for _, a := range teamsOf(w.Players) {
		for _, b := range teamsOf(w.Players) {
			if worthOf(w, a)+worthOf(w, b) > worthOf(w, union(a, b))+worthOf(w, common(a, b)) {
				return false
			}
		}
	}
	return true
}

func otherReference(w impl.Worths) []int64 {
	all := numbersTo(w.Players)
	var worths []int64
	for _, team := range teamsOf(w.Players) {
		rest := all
		for _, player := range team {
			rest = less1(rest, player)
		}
		worths = append(worths, worthOf(w, all)-worthOf(w, rest))
	}
	return worths
}

// withoutReference drops the worths of all sets with a player; those that are
// left stay in their order.
func withoutReference(w impl.Worths, player int64) []int64 {
	var worths []int64
	for _, team := range teamsOf(w.Players) {
		if !slices.Contains(team, player) {
			worths = append(worths, worthOf(w, team))
		}
	}
	return worths
}

func complaintReference(w impl.Worths, shares []int64, by int64, team []int64) int64 {
	complaint := worthOf(w, team) * by
	for _, player := range team {
		complaint -= shares[player]
	}
	return complaint
}

func worstReference(w impl.Worths, shares []int64, by int64) (int64, int64) {
	worst, first := int64(math.MinInt64), int64(-1)
	for _, team := range teamsOf(w.Players) {
		if len(team) == 0 || len(team) == int(w.Players) {
			continue
		}
		if complaint := complaintReference(w, shares, by, team); complaint > worst {
			worst, first = complaint, numberOf(team)
		}
	}
	return worst, first
}

func inCoreReference(w impl.Worths, shares []int64, by int64) bool {
	for _, team := range teamsOf(w.Players) {
		complaint := complaintReference(w, shares, by, team)
		if complaint > 0 || len(team) == int(w.Players) && complaint != 0 {
			return false
		}
	}
	return true
}

// plansReference counts plans as numbers with the base most + 1.
func plansReference(w impl.Worths, most int64) [][]int64 {
	count := int64(1)
	for range w.Players {
		count *= most + 1
	}
	var plans [][]int64
	for n := range count {
		plan := make([]int64, w.Players)
		for i := len(plan) - 1; i >= 0; i-- {
			plan[i] = n % (most + 1)
			n /= most + 1
		}
		if inCoreReference(w, plan, 1) {
			plans = append(plans, plan)
		}
	}
	return plans
}

// mostWithout returns the greatest complaint of sets with i and without k.
func mostWithout(w impl.Worths, shares []int64, i, k int64) int64 {
	most := int64(math.MinInt64)
	for _, team := range teamsOf(w.Players) {
		if slices.Contains(team, i) && !slices.Contains(team, k) {
			most = max(most, complaintReference(w, shares, 1, team))
		}
	}
	return most
}

// stepReference returns the shares behind a step, within their bounds or not.
func stepReference(w impl.Worths, shares []int64) []int64 {
	type move struct{ i, k, more int64 }
	var moves []move
	for i := range w.Players {
		for k := range w.Players {
			if i != k {
				moves = append(moves, move{i, k, mostWithout(w, shares, i, k) - mostWithout(w, shares, k, i)})
			}
		}
	}
	// Moves that are equally good stay in their order.
	slices.SortStableFunc(moves, func(a, b move) int { return int(b.more - a.more) })
	next := slices.Clone(shares)
	if first := moves[0]; first.more >= 2 {
		half := (first.more - first.more%2) / 2
		next[first.i], next[first.k] = next[first.i]+half, next[first.k]-half
	}
	return next
}

func leastWinnersReference(w impl.Worths) []int64 {
	var winners []int64
	for _, team := range teamsOf(w.Players) {
		isLeast := worthOf(w, team) == 1
		for _, player := range team {
			isLeast = isLeast && worthOf(w, less1(team, player)) == 0
		}
		if isLeast {
			winners = append(winners, numberOf(team))
		}
	}
	return winners
}

func vetoReference(w impl.Worths) []int64 {
	var veto []int64
	for player := range w.Players {
		isInAll := true
		for _, team := range teamsOf(w.Players) {
			isInAll = isInAll && (worthOf(w, team) == 0 || slices.Contains(team, player))
		}
		if isInAll {
			veto = append(veto, player)
		}
	}
	return veto
}

func votesReference(quota int64, weights []int64) []int64 {
	var worths []int64
	for _, team := range teamsOf(int64(len(weights))) {
		sum := int64(0)
		for _, player := range team {
			sum += weights[player]
		}
		worths = append(worths, map[bool]int64{true: 1}[sum >= quota])
	}
	return worths
}

func runwayReference(costs []int64) []int64 {
	var worths []int64
	for _, team := range teamsOf(int64(len(costs))) {
		sorted := []int64{0}
		for _, player := range team {
			sorted = append(sorted, costs[player])
		}
		slices.Sort(sorted)
		worths = append(worths, sorted[len(sorted)-1])
	}
	return worths
}

// way is one between two places.
type way struct{ from, to, cost int64 }

// sortedWays returns all ways between some places in ascending order of costs.
func sortedWays(players int64, costs, places []int64) []way {
	var list []way
	for _, from := range places {
		for _, to := range places {
			if from < to {
				list = append(list, way{from, to, costs[from*(players+1)+to]})
			}
		}
	}
	slices.SortStableFunc(list, func(a, b way) int { return int(a.cost - b.cost) })
	return list
}

// treeReference takes the cheapest ways that join groups of places.
func treeReference(players int64, costs []int64) []int64 {
	var worths []int64
	for _, team := range teamsOf(players) {
		places, group := []int64{0}, make([]int64, players+1)
		for _, player := range team {
			places = append(places, player+1)
			group[player+1] = player + 1
		}
		sum := int64(0)
		for _, w := range sortedWays(players, costs, places) {
			first, second := group[w.from], group[w.to]
			if first == second {
				continue
			}
			sum += w.cost
			for place := range group {
				if group[place] == second {
					group[place] = first
				}
			}
		}
		worths = append(worths, sum)
	}
	return worths
}

// treeSharesReference sorts all ways that lead on, again and again.
func treeSharesReference(players int64, costs []int64) []int64 {
	pays := make([]int64, players)
	joined := []int64{0}
	for range players {
		var list []way
		for from := range players + 1 {
			for to := range players + 1 {
				if slices.Contains(joined, from) && !slices.Contains(joined, to) {
					list = append(list, way{from, to, costs[from*(players+1)+to]})
				}
			}
		}
		slices.SortStableFunc(list, func(a, b way) int { return int(a.cost - b.cost) })
		pays[list[0].to-1] = list[0].cost
		joined = append(joined, list[0].to)
	}
	return pays
}
