package tests

import (
	"math"
	"slices"

	"loop.example/g01365/impl"
)

// The references of this file have ways as lists of roads, try all choices, and
// say with loops over these what the document says in words. Each operation of
// 32-bit numbers is one of 64-bit numbers that is narrowed.

// roadsOf returns the roads of a way, by its digits.
func roadsOf(way int64) []int64 {
	var roads []int64
	for road := int64(0); way > 0; road++ {
		if way%2 == 1 {
			roads = append(roads, road)
		}
		way /= 2
	}
	return roads
}

// costOf returns what a road costs each of so many users.
func costOf(c impl.Crowd, road, users int64) int64 {
	return c.Costs[road*c.Users:][:c.Users][users-1]
}

func loadsReference(c impl.Crowd, choices []int64) []int64 {
	loads := make([]int64, c.Roads)
	for _, way := range choices {
		for _, road := range roadsOf(c.Ways[way]) {
			loads[road]++
		}
	}
	return loads
}

func costsReference(c impl.Crowd, choices []int64) []int64 {
	loads := loadsReference(c, choices)
	costs := make([]int64, c.Users)
	for user, way := range choices {
		for _, road := range roadsOf(c.Ways[way]) {
			costs[user] += costOf(c, road, loads[road])
		}
	}
	return costs
}

// potentialReference has users come one after another, each of whom pays what the
// roads cost then.
func potentialReference(c impl.Crowd, choices []int64) int64 {
	loads, potential := make([]int64, c.Roads), int64(0)
	for _, way := range choices {
		for _, road := range roadsOf(c.Ways[way]) {
			loads[road]++
			potential += costOf(c, road, loads[road])
		}
	}
	return potential
}

// changed returns the choices in which one user takes another way.
func changed(choices []int64, user, way int64) []int64 {
	next := slices.Clone(choices)
	next[user] = way
	return next
}

// betterReference returns the choices behind a step, and whether there is one.
func betterReference(c impl.Crowd, choices []int64) ([]int64, bool) {
	for user := range c.Users {
		var pays []int64
		for way := range c.Ways {
			pays = append(pays, costsReference(c, changed(choices, user, int64(way)))[user])
		}
		if most := least(pays); most < pays[choices[user]] {
			return changed(choices, user, int64(slices.Index(pays, most))), true
		}
	}
	return nil, false
}

func isRestReference(c impl.Crowd, choices []int64) bool {
	_, isMoved := betterReference(c, choices)
	return !isMoved
}

func restReference(c impl.Crowd, choices []int64) ([]int64, int64) {
	steps := int64(0)
	for {
		next, isMoved := betterReference(c, choices)
		if !isMoved {
			return choices, steps
		}
		choices = next
		steps++
	}
}

// numberOfChoices returns how many choices a crowd has.
func numberOfChoices(c impl.Crowd) int64 {
	count := int64(1)
	for range c.Users {
		count *= int64(len(c.Ways))
	}
	return count
}

// choicesOf returns all choices, the least ones first.
func choicesOf(c impl.Crowd) [][]int64 { return ownings(int64(len(c.Ways)), c.Users) }

func leastTotalReference(c impl.Crowd) ([]int64, int64) {
	var best []int64
	total := int64(0)
	for _, choices := range choicesOf(c) {
		if pay := sum(costsReference(c, choices)); best == nil || pay < total {
			best, total = choices, pay
		}
	}
	return best, total
}

// restsReference returns all choices at rest.
func restsReference(c impl.Crowd) [][]int64 {
	return slices.DeleteFunc(choicesOf(c), func(choices []int64) bool { return !isRestReference(c, choices) })
}

func worstRestReference(c impl.Crowd) ([]int64, int64) {
	var worst []int64
	total := int64(0)
	for _, choices := range restsReference(c) {
		if pay := sum(costsReference(c, choices)); worst == nil || pay > total {
			worst, total = choices, pay
		}
	}
	return worst, total
}

// tollsReference returns what all of more users pay more than all of one less.
func tollsReference(c impl.Crowd) []int64 {
	var costs []int64
	for road := range c.Roads {
		before := int64(0)
		for users := int64(1); users <= c.Users; users++ {
			all := users * costOf(c, road, users)
			costs = append(costs, all-before)
			before = all
		}
	}
	return costs
}

func dearerReference(c impl.Crowd, by []int64) []int64 {
	costs := slices.Clone(c.Costs)
	for at := range costs {
		costs[at] += by[int64(at)/c.Users]
	}
	return costs
}

// showIfCrowd tells a crowd with other costs, or what is returned in place of one
// that is not valid.
func showIfCrowd(c impl.Crowd, costs []int64) string {
	for _, cost := range costs {
		if cost < -100000 || cost > 100000 {
			return noCrowd
		}
	}
	return show(impl.Crowd{Users: c.Users, Roads: c.Roads, Ways: c.Ways, Costs: costs}, true)
}

// basesInOrder returns roads in ascending order of bases: again and again the
// first least one of those that are left.
func basesInOrder(bases []float32) []int {
	var order []int
	for range bases {
		next := -1
		for road := range bases {
			if !slices.Contains(order, road) && (next < 0 || bases[road] < bases[next]) {
				next = road
			}
		}
		order = append(order, next)
	}
	return order
}

// levelReference returns the level if all these roads are used.
func levelReference(slopes, bases []float32, total float32, roads []int) float32 {
	a, b := float32(0), float32(0)
	for _, road := range roads {
		a = plus(a, over32(1, slopes[road]))
		b = plus(b, over32(bases[road], slopes[road]))
	}
	return over32(plus(total, b), a)
}

func flowsReference(slopes, bases []float32, total float32) ([]float32, float32, bool) {
	order := basesInOrder(bases)
	used := 1
	for used < len(order) && bases[order[used]] < levelReference(slopes, bases, total, order[:used]) {
		used++
	}
	level := levelReference(slopes, bases, total, order[:used])
	flows := make([]float32, len(bases))
	for _, road := range order[:used] {
		flows[road] = over32(less32(level, bases[road]), slopes[road])
		if flows[road] < 0 {
			flows[road] = 0
		}
	}
	return flows, level, finite32(level) && finite32(flows...)
}

// showFlows tells flows and their level, or what is returned in place of those
// that are not finite.
func showFlows(slopes, bases []float32, total float32) string {
	flows, level, ok := flowsReference(slopes, bases, total)
	if !ok {
		return noFlows
	}
	return show(flows, level, true)
}

// twice returns numbers times 2.
func twice(list []float32) []float32 {
	var all []float32
	for _, x := range list {
		all = append(all, times(x, 2))
	}
	return all
}

// showTolled tells flows with tolls.
func showTolled(slopes, bases []float32, total float32) string {
	flows, _, ok := flowsReference(twice(slopes), bases, total)
	if !ok || !finite32(twice(slopes)...) {
		return "[] false"
	}
	return show(flows, true)
}

func flowCostReference(slopes, bases, flows []float32) float32 {
	cost := float32(0)
	for road, flow := range flows {
		cost = plus(cost, times(flow, plus(times(slopes[road], flow), bases[road])))
	}
	return cost
}

// showNumber tells a number, or what is returned in place of one that is not
// finite.
func showNumber(x float32) string {
	if !finite32(x) {
		return noNumber
	}
	return show(x, true)
}

// lineReference has each one begin at the first time, of those at which one comes
// or another one is done, at which fewer than all desks are busy with others.
func lineReference(comes, takes []int64, desks int64) []int64 {
	var begins []int64
	for _, come := range comes {
		starts := []int64{come}
		for k, begin := range begins {
			starts = append(starts, max(come, begin+takes[k]))
		}
		slices.Sort(starts)
		at := slices.IndexFunc(starts, func(start int64) bool {
			busy := int64(0)
			for k, begin := range begins {
				if begin+takes[k] > start {
					busy++
				}
			}
			return busy < desks
		})
		begins = append(begins, starts[at])
	}
	return begins
}

// waitIn returns what all wait if they begin at one desk in an order.
func waitIn(takes, order []int64) int64 {
	wait, now := int64(0), int64(0)
	for _, i := range order {
		wait += now
		now += takes[i]
	}
	return wait
}

// shortestReference returns again and again the first one of those who take least.
func shortestReference(takes []int64) []int64 {
	var order []int64
	for range takes {
		next := int64(-1)
		for i, take := range takes {
			if !slices.Contains(order, int64(i)) && (next < 0 || take < takes[next]) {
				next = int64(i)
			}
		}
		order = append(order, next)
	}
	return order
}

func arrowsReference(choices []int64, n int64) []complex64 {
	var arrows []complex64
	for _, choice := range choices {
		arrows = append(arrows, impl.PhasorOf(float64(over32(float32(choice), float32(n)))))
	}
	return arrows
}

func meanReference(arrows []complex64) complex64 {
	re, im := float32(0), float32(0)
	for _, arrow := range arrows {
		re, im = plus(re, real(arrow)), plus(im, imag(arrow))
	}
	n := float32(len(arrows))
	return complex(over32(re, n), over32(im, n))
}

// showMean tells a mean, or what is returned in place of one that is not finite.
func showMean(mean complex64) string {
	if !finite32(real(mean), imag(mean)) {
		return noMean
	}
	return show(mean, true)
}

// agreeReference returns turns that have come nearer to their mean, which are
// none if they are not finite.
func agreeReference(turns []float32, by float32) []float32 {
	var phasors []complex64
	for _, turn := range turns {
		phasors = append(phasors, impl.PhasorOf(float64(turn)))
	}
	mean := meanReference(phasors)
	var next []float32
	for i, turn := range turns {
		re, im := real(phasors[i]), imag(phasors[i])
		product := impl.MulComplex(mean, complex(re, -im))
		next = append(next, plus(turn, times(by, imag(product))))
	}
	if !finite32(next...) {
		return nil
	}
	return next
}

// farReference returns the greatest absolute value of all differences.
func farReference(a, b []float32) float32 {
	far := 0.0
	for i := range a {
		far = max(far, math.Abs(float64(less32(a[i], b[i]))))
	}
	return float32(far)
}

// showRounds tells turns behind rounds, or what is returned if they never come
// near enough.
func showRounds(turns []float32, by, near float32, most int64) string {
	for round := int64(1); round <= most; round++ {
		next := agreeReference(turns, by)
		if next == nil {
			return noRounds
		}
		if farReference(next, turns) <= near {
			return show(next, round, true)
		}
		turns = next
	}
	return noRounds
}
