package tests

import (
	"testing"

	"loop.example/g01365/impl"
)

func TestAllRingsOfGiversAreTold(t *testing.T) {
	for _, gives := range someGives() {
		for long := int64(2); long <= 4; long++ {
			is(t, "GiveRings of "+show(gives, long), show(impl.GiveRings(gives, long)), show(givenRings(gives, long), true))
		}
	}
	for n := int64(1); n <= 8; n++ {
		// Each set of two makes one ring, of three two, and of four six.
		twos, threes, fours := n*(n-1)/2, n*(n-1)*(n-2)/3, n*(n-1)*(n-2)*(n-3)/4
		for long, want := range map[int64]int64{2: twos, 3: twos + threes, 4: twos + threes + fours} {
			rings, ok := impl.GiveRings(giveAll(n), long)
			is(t, "rings of all", show(int64(len(rings)), ok), show(want, true))
		}
	}
}

func TestRingsAtTheEdges(t *testing.T) {
	all := giveAll(3)
	for _, c := range []struct {
		gives [][]int64
		long  int64
		want  string
	}{
		{threeInARing(), 3, "[[0 1 2]] true"},
		{threeInARing(), 4, "[[0 1 2]] true"},
		{threeInARing(), 2, "[] true"},
		{threeInARing(), 1, "[] false"},
		{threeInARing(), 5, "[] false"},
		{threeInARing(), 0, "[] false"},
		{[][]int64{nil}, 2, "[] true"}, // one alone
		{make([][]int64, 8), 4, "[] true"},
		{[][]int64{{1}, {0}}, 2, "[[0 1]] true"},
		{[][]int64{{1}, nil}, 2, "[] true"},
		{[][]int64{{2}, {0}, {1}}, 3, "[[0 2 1]] true"}, // the other way round
		{all, 2, "[[0 1] [0 2] [1 2]] true"},
		{all, 3, "[[0 1] [0 2] [1 2] [0 1 2] [0 2 1]] true"},
		{[][]int64{{1}, {2}, {3}, {0}}, 4, "[[0 1 2 3]] true"},
		{[][]int64{{1}, {2}, {3}, {0}}, 3, "[] true"},
		{[][]int64{{3}, {0}, {1}, {2}}, 4, "[[0 3 2 1]] true"},
		{[][]int64{{1}, {2}, {3}, {4}, {0}}, 4, "[] true"},          // a ring of five
		{[][]int64{{1}, {2}, {1, 3}, {2}}, 4, "[[1 2] [2 3]] true"}, // 0 is in none
		{[][]int64{nil, {3}, nil, {7}, nil, nil, nil, {1}}, 3, "[[1 3 7]] true"},
	} {
		is(t, "GiveRings of "+show(c.gives, c.long), show(impl.GiveRings(c.gives, c.long)), c.want)
	}
}

func TestGivesHaveLimits(t *testing.T) {
	for _, gives := range wrongGives() {
		for long := int64(2); long <= 4; long++ {
			is(t, "GiveRings of "+show(gives, long), show(impl.GiveRings(gives, long)), "[] false")
			is(t, "MostGiven of "+show(gives, long), show(impl.MostGiven(gives, long)), "0 [] false")
		}
	}
	for _, gives := range [][][]int64{threeInARing(), {nil}, giveAll(3)} {
		for _, long := range append(farNumbers(), -1, 0, 1, 5, 6, 1<<32+3) {
			is(t, "GiveRings of "+show(gives, long), show(impl.GiveRings(gives, long)), "[] false")
			is(t, "MostGiven of "+show(gives, long), show(impl.MostGiven(gives, long)), "0 [] false")
		}
	}
	for n := int64(1); n <= 10; n++ {
		_, ok := impl.GiveRings(make([][]int64, n), 2)
		is(t, "whether there are so many who give: "+show(n), show(ok), show(n <= 8))
	}
}

// checkMost compares the rings that are taken, if there are not too many of all,
// and returns how many there are of all, and how many sets have as much.
func checkMost(t *testing.T, gives [][]int64, long int64) (int, int) {
	t.Helper()
	rings := givenRings(gives, long)
	if len(rings) > 16 {
		is(t, "MostGiven of "+show(gives, long), show(impl.MostGiven(gives, long)), "0 [] false")
		return len(rings), 0
	}
	most, taken := mostReference(rings)
	is(t, "MostGiven of "+show(gives, long), show(impl.MostGiven(gives, long)), show(most, taken, true))
	given, equal := int64(0), 0
	for _, ring := range taken {
		given += int64(len(ring))
	}
	is(t, "how many are in the rings", show(given), show(most))
	if len(rings) > 10 {
		return len(rings), 0
	}
	for _, set := range teamsOf(int64(len(rings))) {
		var all []int64
		for _, at := range set {
			all = append(all, rings[at]...)
		}
		if len(union(all, nil)) == len(all) && int64(len(all)) == most {
			equal++
		}
	}
	return len(rings), equal
}

func TestMostGivenTakesRingsApart(t *testing.T) {
	d := dice(281)
	list := someGives()
	for range 1200 {
		list = append(list, d.gives(d.from(4, 8), 3))
	}
	counts, several := make([]int, 600), 0
	for _, gives := range list {
		for long := int64(2); long <= 4; long++ {
			count, equal := checkMost(t, gives, long)
			counts[count]++
			if equal > 1 {
				several++
			}
		}
	}
	if counts[0] < 20 || counts[16] < 10 || counts[17] < 10 || several < 200 {
		t.Errorf("%d gives have no rings, %d and %d have 16 and 17, and %d several sets", counts[0], counts[16], counts[17], several)
	}
}

func TestMostGivenAtTheEdges(t *testing.T) {
	for _, c := range []struct {
		gives [][]int64
		long  int64
		want  string
	}{
		{threeInARing(), 3, "3 [[0 1 2]] true"},
		{threeInARing(), 2, "0 [] true"},
		{[][]int64{nil}, 4, "0 [] true"},
		{make([][]int64, 8), 2, "0 [] true"},
		{giveAll(2), 2, "2 [[0 1]] true"},
		{giveAll(3), 2, "2 [[0 1]] true"},       // the first one of three
		{giveAll(3), 3, "3 [[0 1 2]] true"},     // the first one of two of three
		{giveAll(4), 2, "4 [[0 3] [1 2]] true"}, // 4 and 8 are less than 2 and 16
		{giveAll(4), 3, "4 [[0 3] [1 2]] true"},
		{giveAll(4), 4, "0 [] false"}, // 20 rings
		{giveAll(5), 2, "4 [[0 3] [1 2]] true"},
		{giveAll(6), 2, "6 [[0 5] [1 4] [2 3]] true"},
		{giveAll(7), 2, "0 [] false"}, // 21 rings
		// A ring of two in the middle is in the way of two others.
		{[][]int64{{1}, {0, 2}, {1, 3}, {2}}, 2, "4 [[0 1] [2 3]] true"},
		{[][]int64{{1}, {0, 2}, {1}}, 2, "2 [[0 1]] true"},
		// Two rings of two have as many as one of four, and come before.
		{[][]int64{{1}, {0, 2}, {3}, {0, 2}}, 4, "4 [[0 1] [2 3]] true"},
		{[][]int64{{1}, {2}, {0, 3}, {2}}, 3, "3 [[0 1 2]] true"},
		// Rings of four at both ends.
		{[][]int64{{1}, {2}, {3}, {0}, {5}, {6}, {7}, {4}}, 4, "8 [[0 1 2 3] [4 5 6 7]] true"},
	} {
		is(t, "MostGiven of "+show(c.gives, c.long), show(impl.MostGiven(c.gives, c.long)), c.want)
		checkMost(t, c.gives, c.long)
	}
}

// TestSixteenRingsAndOneMore has eight who can give to one another.
func TestSixteenRingsAndOneMore(t *testing.T) {
	// 0 to 3 can all give to 4 to 7, and these to them.
	gives := [][]int64{{4, 5, 6, 7}, {4, 5, 6, 7}, {4, 5, 6, 7}, {4, 5, 6, 7}, {0, 1, 2, 3}, {0, 1, 2, 3}, {0, 1, 2, 3}, {0, 1, 2, 3}}
	rings, _ := impl.GiveRings(gives, 2)
	is(t, "sixteen rings", show(int64(len(rings))), "16")
	is(t, "MostGiven of sixteen", show(impl.MostGiven(gives, 2)), "8 [[0 7] [1 6] [2 5] [3 4]] true")
	gives[0], gives[1] = []int64{1, 4, 5, 6, 7}, []int64{0, 4, 5, 6, 7}
	rings, _ = impl.GiveRings(gives, 2)
	is(t, "seventeen rings", show(int64(len(rings))), "17")
	is(t, "MostGiven of seventeen", show(impl.MostGiven(gives, 2)), "0 [] false")
}
