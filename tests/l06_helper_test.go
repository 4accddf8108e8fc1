package tests

import (
	"math"
	"slices"

	"loop.example/g01365/impl"
)

// What functions of chapter 6 show that fail.
const (
	noCrowd  = "{0 0 [] []} false"
	noFlows  = "[] 00000000 false"
	noMean   = "(00000000 00000000) false"
	noRounds = "[] 0 false"
)

// twoRoads are those of the document's example, which cost as much as they have
// users.
func twoRoads() impl.Crowd {
	return impl.Crowd{Users: 2, Roads: 2, Ways: []int64{1, 2}, Costs: []int64{1, 2, 1, 2}}
}

// steadyRoad has a road that costs as much as it has users, and one that always
// costs as much as the first one with all.
func steadyRoad(users int64) impl.Crowd {
	return crowdOf([]int64{1, 2}, rising(users, 1), copies(users, int(users)))
}

// rising are costs that grow by as much with each user.
func rising(users, by int64) []int64 {
	var costs []int64
	for user := range users {
		costs = append(costs, (user+1)*by)
	}
	return costs
}

// crowdOf makes a crowd of ways and the costs of each road.
func crowdOf(ways []int64, roads ...[]int64) impl.Crowd {
	return impl.Crowd{Users: int64(len(roads[0])), Roads: int64(len(roads)), Ways: ways, Costs: slices.Concat(roads...)}
}

func copyOfCrowd(c impl.Crowd) impl.Crowd {
	return impl.Crowd{Users: c.Users, Roads: c.Roads, Ways: slices.Clone(c.Ways), Costs: slices.Clone(c.Costs)}
}

// equalRoads have a way for each road, all of which always cost the same.
func equalRoads(users, roads, cost int64) impl.Crowd {
	c := impl.Crowd{Users: users, Roads: roads, Costs: copies(cost, int(users*roads))}
	for road := range roads {
		c.Ways = append(c.Ways, numberOf([]int64{road}))
	}
	return c
}

// crowd returns a crowd with so many ways and costs from least to most.
func (d *dice) crowd(users, roads, ways, least, most int64) impl.Crowd {
	all := numberOf(numbersTo(roads))
	return impl.Crowd{Users: users, Roads: roads, Ways: d.integers(ways, 1, all), Costs: d.integers(roads*users, least, most)}
}

// fullRoads returns a crowd whose roads cost more and more, or, turned around,
// less and less.
func (d *dice) fullRoads(users, roads, ways, most int64, isTurned bool) impl.Crowd {
	c := d.crowd(users, roads, ways, 0, most)
	for road := range roads {
		costs := c.Costs[road*users : (road+1)*users]
		slices.Sort(costs)
		if isTurned {
			slices.Reverse(costs)
		}
	}
	return c
}

// someCrowds are crowds of all numbers of users, roads and ways: equal ones, those
// with many ties and with few, and those whose roads cost more and more, or less.
func someCrowds() []impl.Crowd {
	list := []impl.Crowd{twoRoads(), steadyRoad(2), steadyRoad(4), steadyRoad(8)}
	d := dice(301)
	for users := int64(1); users <= impl.MaxUsers; users++ {
		for roads := int64(1); roads <= impl.MaxRoads; roads++ {
			list = append(list, equalRoads(users, roads, 0), equalRoads(users, roads, impl.MaxToll), equalRoads(users, roads, -impl.MaxToll))
			ways := func() int64 { return d.from(1, 8) }
			list = append(list,
				d.crowd(users, roads, ways(), -1, 1), d.crowd(users, roads, ways(), 0, 3), d.crowd(users, roads, ways(), 1, 40),
				d.crowd(users, roads, ways(), -impl.MaxToll, impl.MaxToll), d.crowd(users, roads, 1, -9, 9), d.crowd(users, roads, 8, -9, 9),
				d.fullRoads(users, roads, ways(), 9, false), d.fullRoads(users, roads, ways(), 1000, false), d.fullRoads(users, roads, ways(), 9, true))
		}
	}
	return list
}

// fewChoices leaves those crowds of which all choices can be tried, at most so
// many.
func fewChoices(list []impl.Crowd, most int64) []impl.Crowd {
	return slices.DeleteFunc(slices.Clone(list), func(c impl.Crowd) bool { return numberOfChoices(c) > most })
}

// smallCrowds are all crowds of two users, two roads and some ways with costs -1,
// 0 and 1.
func smallCrowds() []impl.Crowd {
	var list []impl.Crowd
	for n := range int64(81) {
		costs := []int64{n%3 - 1, n/3%3 - 1, n/9%3 - 1, n/27 - 1}
		for _, ways := range [][]int64{{1}, {3}, {1, 2}, {2, 1}, {1, 3}, {3, 1}, {2, 2}, {1, 2, 3}, {3, 2, 1}, {1, 2, 1}} {
			list = append(list, impl.Crowd{Users: 2, Roads: 2, Ways: ways, Costs: costs})
		}
	}
	return list
}

// wrongCrowds are not valid, for one reason each.
func wrongCrowds() []impl.Crowd {
	list := []impl.Crowd{{}, {Ways: []int64{1}, Costs: []int64{1}}}
	for _, size := range [][4]int64{
		{0, 1, 1, 0}, {1, 0, 1, 0}, {0, 2, 1, 2}, {2, 0, 1, 2}, {-1, -1, 1, 1}, {-2, -2, 1, 4}, {-1, 1, 1, 1}, {1, -1, 1, 1},
		{9, 1, 1, 9}, {9, 2, 2, 18}, {9, 8, 8, 72}, {1, 9, 1, 9}, {2, 9, 2, 18}, {8, 9, 8, 72}, {9, 9, 1, 81},
		{1, 1, 0, 1}, {8, 8, 0, 64}, {1, 1, 9, 1}, {8, 8, 9, 64}, {2, 2, 1000, 4},
		{1, 1, 1, 0}, {1, 1, 1, 2}, {2, 2, 1, 3}, {2, 2, 1, 5}, {3, 2, 1, 9}, {2, 3, 1, 4}, {8, 8, 8, 63}, {8, 8, 8, 65},
		{1 << 32, 1 << 32, 1, 0}, // whose product is 0 in 64 bits
		{1 << 62, 4, 1, 0}, {4, 1 << 62, 1, 0}, {math.MinInt64, 2, 1, 0}, {2, math.MinInt64, 1, 0},
		{math.MaxInt64, math.MaxInt64, 1, 1}, // whose product is 1
		{math.MaxInt64, 1, 1, 1}, {1, math.MaxInt64, 1, 1}, {1, 64, 1, 64}, {64, 1, 1, 64}, {1, 65, 1, 65},
	} {
		list = append(list, impl.Crowd{Users: size[0], Roads: size[1], Ways: copies[int64](1, int(size[2])), Costs: make([]int64, size[3])})
	}
	for _, c := range []impl.Crowd{equalRoads(1, 1, 0), twoRoads(), equalRoads(5, 3, 7), equalRoads(8, 8, impl.MaxToll)} {
		for _, wrong := range append(farNumbers(), 0, -1, 1<<c.Roads, 1<<c.Roads+1) {
			for at := range c.Ways {
				other := copyOfCrowd(c)
				other.Ways[at] = wrong
				list = append(list, other)
			}
		}
		for _, wrong := range append(farNumbers(), impl.MaxToll+1, -impl.MaxToll-1) {
			for _, at := range []int{0, len(c.Costs) / 2, len(c.Costs) - 1} {
				other := copyOfCrowd(c)
				other.Costs[at] = wrong
				list = append(list, other)
			}
		}
	}
	return list
}

// choices returns a way for each user.
func (d *dice) choices(c impl.Crowd) []int64 {
	return d.integers(c.Users, 0, int64(len(c.Ways))-1)
}

// wrongChoices are none of a valid crowd.
func wrongChoices(c impl.Crowd) [][]int64 {
	list := [][]int64{nil, make([]int64, c.Users-1), make([]int64, c.Users+1), make([]int64, c.Users+8), make([]int64, 1000)}
	for _, wrong := range wrongPlayers(int64(len(c.Ways))) {
		for at := range c.Users {
			list = append(list, changed(make([]int64, c.Users), at, wrong))
		}
	}
	return list
}

// amounts are finite and at least 0, from zeros and subnormal numbers to
// the greatest one.
func amounts() []float32 {
	return []float32{0, num(0x80000000), num(1), num(2), num(0x007fffff), num(0x00800000), 1e-30, 0.1, 0.5, 1, num(0x3f800001), 1.5, 2, 3, 7, 1e5, 1e20, 1e38, math.MaxFloat32}
}

// wrongAmounts are below 0 or not finite.
func wrongAmounts() []float32 {
	infinite := float32(math.Inf(1))
	return []float32{num(0x7fc00000), num(0xffc00001), num(0x7f800001), infinite, -infinite, -1, num(0x80000001), num(0x807fffff), num(0x80800000), -math.MaxFloat32}
}

// near1 returns numbers from 1/16 to 16.
func (d *dice) near1(n int64) []float32 {
	var list []float32
	for range n {
		list = append(list, num(uint32(d.next())&0x7fffff|uint32(d.from(123, 130))<<23))
	}
	return list
}

// anySizes returns numbers greater than 0 of any size, subnormal ones among them.
func (d *dice) anySizes(n int64) []float32 {
	var list []float32
	for range n {
		list = append(list, num(uint32(d.from(1, 0x7f7fffff))))
	}
	return list
}

// bases returns n numbers of at least 0, some of which are equal, or 0.
func (d *dice) bases(n int64) []float32 {
	list := d.near1(n)
	for i := range list {
		switch d.from(0, 5) {
		case 0:
			list[i] = 0
		case 1:
			list[i] = list[0]
		case 2:
			list[i] = float32(d.from(0, 3))
		}
	}
	return list
}

// line returns comes and takes of n from 0 to most.
func (d *dice) line(n, most, take int64) ([]int64, []int64) {
	comes, takes := d.integers(n, 0, most), d.integers(n, 0, take)
	slices.Sort(comes)
	return comes, takes
}

// wrongTimes are none of any line.
func wrongTimes() []int64 { return append(farNumbers(), -1, 1000001) }

// turns returns n turns, now and then many of them.
func (d *dice) turns(n int64) []float32 {
	var list []float32
	for range n {
		switch d.from(0, 9) {
		case 0:
			list = append(list, d.finite())
		case 1:
			list = append(list, float32(d.from(-8, 8))/8)
		default:
			list = append(list, float32(d.next()>>40)/0x1p24)
		}
	}
	return list
}

// nearTurns returns n turns from -1/8 to 1/8, which come together.
func (d *dice) nearTurns(n int64) []float32 {
	list := d.turns(n)
	for i := range list {
		list[i] = float32(d.from(-1000, 1000)) / 8000
	}
	return list
}

// notFinite are numbers that are not finite.
func notFinite() []float32 {
	infinite := float32(math.Inf(1))
	return []float32{num(0x7fc00000), num(0xffc00001), num(0x7f800001), infinite, -infinite}
}
