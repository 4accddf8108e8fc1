package tests

import (
	"testing"

	"loop.example/g01365/impl"
)

// noSplit is what SplitOne shows if it fails.
const noSplit = "[] 0 0 0 false"

func showSplit(s split) string { return show(s.owners, s.thing, s.p, s.q, true) }

// splitWorths returns what n things are worth to two players, with equal sums.
func (d *dice) splitWorths(n, most int64) ([]int64, []int64) {
	for {
		first, second := d.integers(n, 0, most), d.integers(n, 0, most)
		// What the second one has more or less by is put on its last things.
		for at := n - 1; at >= 0 && sum(first) != sum(second); at-- {
			second[at] = min(max(second[at]+sum(first)-sum(second), 0), most)
		}
		if sum(first) > 0 {
			return first, second
		}
	}
}

// checkEven looks whether both have as much, in units of 1 / q, and at least half
// of all, by a fraction of one thing alone that is less than all of it.
func checkEven(t *testing.T, first, second []int64) {
	t.Helper()
	owners, parted, p, q, ok := impl.SplitOne(first, second)
	what := "SplitOne of " + show(first, second)
	has := []int64{0, 0}
	for thing, owner := range owners {
		worths := [][]int64{first, second}
		if int64(thing) == parted {
			has[owner] += worths[owner][thing] * (q - p)
			has[1-owner] += worths[1-owner][thing] * p
		} else {
			has[owner] += worths[owner][thing] * q
		}
	}
	is(t, what+" is even", show(ok, has[0], 2*has[0] >= sum(first)*q), show(true, has[1], true))
	a, b := lowest(p, q)
	isPart := parted >= 0 && parted < int64(len(first)) && p > 0 && p < q
	isWhole := parted == -1 && p == 0 && q == 1
	is(t, what+" parts one thing at most", show(a, b, isPart || isWhole), show(p, q, true))
}

func TestSplitOneMovesThingsInOrder(t *testing.T) {
	d := dice(141)
	parted, whole := 0, 0
	for n := int64(1); n <= impl.MaxThings; n++ {
		for range 400 {
			first, second := d.splitWorths(n, []int64{1, 2, 5, 12, 100, 1000}[d.from(0, 5)])
			want := splitReference(first, second)
			is(t, "SplitOne of "+show(first, second), show(impl.SplitOne(first, second)), showSplit(want))
			checkEven(t, first, second)
			if want.thing >= 0 {
				parted++
			} else {
				whole++
			}
		}
	}
	if parted < 500 || whole < 500 {
		t.Errorf("a thing is parted %d times, and none %d times", parted, whole)
	}
}

// TestSplitOneOfAllSmallWorths has all worths of up to four things from 0 to 3.
func TestSplitOneOfAllSmallWorths(t *testing.T) {
	for n := int64(1); n <= 4; n++ {
		lists := ownings(4, n)
		for _, first := range lists {
			for _, second := range lists {
				want := noSplit
				if sum(first) == sum(second) && sum(first) > 0 {
					want = showSplit(splitReference(first, second))
				}
				is(t, "SplitOne of "+show(first, second), show(impl.SplitOne(first, second)), want)
			}
		}
	}
}

func TestSplitOneAtTheEdges(t *testing.T) {
	for _, c := range []struct {
		first, second []int64
		want          string
	}{
		{[]int64{6, 4}, []int64{3, 7}, "[0 1] 1 1 11 true"},
		{[]int64{5, 5}, []int64{5, 5}, "[1 0] -1 0 1 true"}, // the first one goes over whole
		{[]int64{1}, []int64{1}, "[0] 0 1 2 true"},          // half of all there is
		{[]int64{1000}, []int64{1000}, "[0] 0 1 2 true"},
		{[]int64{7, 3}, []int64{3, 7}, "[0 1] -1 0 1 true"}, // both have as much at once
		{[]int64{10, 0}, []int64{0, 10}, "[0 1] -1 0 1 true"},
		{[]int64{0, 10}, []int64{10, 0}, "[1 0] -1 0 1 true"},
		{[]int64{6, 4, 0}, []int64{2, 2, 6}, "[0 0 1] 1 2 3 true"}, // 4 / 2 is less than 6 / 2
		{[]int64{2, 2, 6}, []int64{6, 4, 0}, "[1 1 0] 1 2 3 true"},
		{[]int64{4, 2, 0}, []int64{2, 1, 3}, "[0 0 1] 0 1 2 true"}, // 4 / 2 and 2 / 1 are equal
		{[]int64{2, 4, 0}, []int64{1, 2, 3}, "[1 0 1] -1 0 1 true"},
		{[]int64{9, 6, 5, 0}, []int64{3, 4, 4, 9}, "[0 0 1 1] 1 1 5 true"}, // the last one goes first
		{[]int64{3, 4, 4, 9}, []int64{9, 6, 5, 0}, "[1 1 0 0] 1 1 5 true"},
		// What is worth nothing to both stays with the first player.
		{[]int64{0, 5, 5}, []int64{0, 5, 5}, "[0 1 0] -1 0 1 true"},
		{[]int64{0, 1}, []int64{0, 1}, "[0 0] 1 1 2 true"},
		{[]int64{1, 0}, []int64{1, 0}, "[0 0] 0 1 2 true"},
		// What is worth nothing to the other one would go last, wherever it is.
		{[]int64{5, 5, 0}, []int64{0, 5, 5}, "[0 0 1] 1 1 2 true"},
		{[]int64{0, 5, 5}, []int64{5, 5, 0}, "[1 0 0] 1 1 2 true"},
		{[]int64{0, 2, 7, 1}, []int64{5, 4, 0, 1}, "[1 1 0 0] 1 1 6 true"},
		{copies[int64](1000, 8), copies[int64](1000, 8), "[1 1 1 1 0 0 0 0] -1 0 1 true"},
		{copies[int64](1, 7), copies[int64](1, 7), "[1 1 1 0 0 0 0] 3 1 2 true"},
	} {
		is(t, "SplitOne of "+show(c.first, c.second), show(impl.SplitOne(c.first, c.second)), c.want)
		checkEven(t, c.first, c.second)
	}
}

func TestSplitOneNeedsEqualSums(t *testing.T) {
	for _, c := range [][2][]int64{
		{nil, nil},
		{{0}, {0}}, // nothing is worth anything
		{make([]int64, 8), make([]int64, 8)},
		{{1}, {2}},
		{{2, 3}, {3, 3}},
		{{5}, {5, 0}}, // too few worths
		{{5, 0}, {5}},
		{{5, 5}, nil},
		{nil, {5, 5}},
		{{5, 0, 0}, {5}},
		{{5}, {5, 0, 0}},
		{copies[int64](1, 9), copies[int64](1, 9)},
		{copies[int64](1, 1000), copies[int64](1, 1000)},
		{{1001}, {1001}},
		{{1001, 0}, {1000, 1}},
		{{1000, 1}, {0, 1001}},
		{{-1, 2}, {1, 0}},
		{{1, 0}, {2, -1}},
	} {
		is(t, "SplitOne of "+show(c[0], c[1]), show(impl.SplitOne(c[0], c[1])), noSplit)
	}
	for _, far := range farNumbers() {
		is(t, "SplitOne of "+show(far), show(impl.SplitOne([]int64{far, 1}, []int64{1, far})), noSplit)
		is(t, "SplitOne of "+show(far)+" twice", show(impl.SplitOne([]int64{far, far, 1}, []int64{1, 0, 0})), noSplit)
		is(t, "SplitOne with "+show(far), show(impl.SplitOne([]int64{1, 0, 0}, []int64{far, far, 1})), noSplit)
	}
}
