package tests

import (
	"slices"
	"testing"

	"loop.example/g01365/impl"
)

func checkLine(t *testing.T, comes, takes []int64, desks int64) int64 {
	t.Helper()
	begins := lineReference(comes, takes, desks)
	wait := sum(begins) - sum(comes)
	is(t, "LineOf "+show(comes, takes, desks), show(impl.LineOf(comes, takes, desks)), show(begins, true))
	is(t, "WaitOf "+show(comes, takes, desks), show(impl.WaitOf(comes, takes, desks)), show(wait, true))
	return wait
}

func TestLinesBeginAsSoonAsADeskIsFree(t *testing.T) {
	d := dice(371)
	for desks := int64(1); desks <= impl.MaxUsers; desks++ {
		for _, n := range []int64{0, 1, 2, 3, 5, 8, 13, 40, 64} {
			for range 12 {
				for _, most := range []int64{0, 3, 20, 300, 1000000} {
					comes, takes := d.line(n, most, d.from(0, 2*most/max(n, 1)*desks)%1000001)
					checkLine(t, comes, takes, desks)
				}
			}
		}
	}
}

// TestNoMoreAreServedThanThereAreDesks has each one begin in order, not before it
// comes, and one desk more make nobody wait longer.
func TestNoMoreAreServedThanThereAreDesks(t *testing.T) {
	d := dice(372)
	for range 300 {
		comes, takes := d.line(d.from(1, 64), 200, 60)
		var last []int64
		for desks := int64(1); desks <= 8; desks++ {
			begins, ok := impl.LineOf(comes, takes, desks)
			what := "LineOf " + show(comes, takes, desks)
			is(t, what, show(ok, slices.IsSorted(begins)), "true true")
			for i, begin := range begins {
				busy := int64(0)
				for k, other := range begins {
					if other <= begin && begin < other+takes[k] {
						busy++
					}
				}
				is(t, what, show(begin >= comes[i], busy <= desks, last == nil || begin <= last[i]), "true true true")
			}
			last = begins
		}
	}
}

func TestLinesAtTheEdges(t *testing.T) {
	for _, e := range []struct {
		comes, takes []int64
		desks        int64
		begins       []int64
		wait         int64
	}{
		{nil, nil, 1, nil, 0}, // nobody
		{[]int64{}, nil, 8, nil, 0},
		{[]int64{7}, []int64{5}, 1, []int64{7}, 0},
		{[]int64{0, 1, 1}, []int64{3, 2, 1}, 2, []int64{0, 1, 3}, 2},
		{[]int64{0, 1, 1}, []int64{3, 2, 1}, 1, []int64{0, 3, 5}, 6},
		{[]int64{0, 1, 1}, []int64{3, 2, 1}, 3, []int64{0, 1, 1}, 0},
		// Who comes when a desk gets free does not wait.
		{[]int64{0, 3, 5}, []int64{3, 2, 1}, 1, []int64{0, 3, 5}, 0},
		{[]int64{0, 2, 5}, []int64{3, 2, 1}, 1, []int64{0, 3, 5}, 1},
		{[]int64{0, 2, 6}, []int64{3, 2, 1}, 1, []int64{0, 3, 6}, 1}, // the desk is free for a while
		// Takes of 0: desks are free at once.
		{copies[int64](4, 5), make([]int64, 5), 1, copies[int64](4, 5), 0},
		{[]int64{0, 0, 0}, []int64{0, 5, 0}, 1, []int64{0, 0, 5}, 5},
		{[]int64{0, 0, 0}, []int64{5, 0, 0}, 2, []int64{0, 0, 0}, 0},
		// Several desks are free at once, and several get free at once.
		{[]int64{0, 0, 0, 0}, []int64{2, 2, 2, 2}, 2, []int64{0, 0, 2, 2}, 4},
		{[]int64{0, 0, 0, 0}, []int64{2, 2, 2, 2}, 8, []int64{0, 0, 0, 0}, 0},
		{[]int64{0, 0, 1, 1, 1}, []int64{3, 3, 9, 1, 1}, 2, []int64{0, 0, 3, 3, 4}, 7},
		{[]int64{0, 0, 0, 0, 0}, []int64{4, 1, 1, 1, 5}, 2, []int64{0, 0, 1, 2, 3}, 6},
		// Nobody overtakes, though another desk would be enough for one who takes less.
		{[]int64{0, 0, 0}, []int64{9, 8, 1}, 1, []int64{0, 9, 17}, 26},
		// The latest times and the longest takes.
		{[]int64{1000000, 1000000}, []int64{1000000, 1000000}, 1, []int64{1000000, 2000000}, 1000000},
		{make([]int64, 64), copies[int64](1000000, 64), 1, nil, 2016000000},
		{make([]int64, 64), copies[int64](1000000, 64), 8, nil, 224000000},
		{copies[int64](1000000, 64), make([]int64, 64), 1, copies[int64](1000000, 64), 0},
	} {
		what := show(e.comes, e.takes, e.desks)
		if e.begins != nil || len(e.comes) == 0 {
			is(t, "LineOf "+what, show(impl.LineOf(e.comes, e.takes, e.desks)), show(e.begins, true))
		}
		is(t, "WaitOf "+what, show(impl.WaitOf(e.comes, e.takes, e.desks)), show(e.wait, true))
		checkLine(t, e.comes, e.takes, e.desks)
	}
	begins, _ := impl.LineOf(make([]int64, 64), copies[int64](1000000, 64), 1)
	for i, begin := range begins {
		is(t, "the begin of "+show(int64(i)), show(begin), show(int64(i)*1000000))
	}
}

// noLine has both functions of lines fail.
func noLine(t *testing.T, comes, takes []int64, desks int64) {
	t.Helper()
	is(t, "LineOf "+show(comes, takes, desks), show(impl.LineOf(comes, takes, desks)), "[] false")
	is(t, "WaitOf "+show(comes, takes, desks), show(impl.WaitOf(comes, takes, desks)), "0 false")
}

func TestLinesHaveLimits(t *testing.T) {
	for comes := range 67 {
		for takes := range 67 {
			if comes == takes && comes <= 64 {
				checkLine(t, make([]int64, comes), make([]int64, takes), 3)
			} else {
				noLine(t, make([]int64, comes), make([]int64, takes), 3)
			}
		}
	}
	noLine(t, make([]int64, 1000), make([]int64, 1000), 1)
	for _, desks := range append(farNumbers(), 0, -1, 9, 10, 64, 1<<32+1) {
		noLine(t, []int64{0, 1}, []int64{1, 1}, desks)
		noLine(t, nil, nil, desks)
	}
	for n := 1; n <= 64; n += 7 {
		for at := range n {
			for _, wrong := range wrongTimes() {
				// Ascending comes, of which one is wrong, and wrong takes.
				comes := make([]int64, n)
				for i := at; i < n && wrong > 0; i++ {
					comes[i] = wrong
				}
				for i := 0; i <= at && wrong < 0; i++ {
					comes[i] = wrong
				}
				noLine(t, comes, make([]int64, n), 2)
				noLine(t, make([]int64, n), changed(make([]int64, n), int64(at), wrong), 2)
			}
			for _, right := range []int64{0, 1, 999999, 1000000} {
				comes := make([]int64, n)
				for i := at; i < n; i++ {
					comes[i] = right
				}
				checkLine(t, comes, changed(make([]int64, n), int64(at), right), 2)
			}
		}
	}
}

func TestComesAscend(t *testing.T) {
	for n := 2; n <= 64; n += 6 {
		comes := rising(int64(n), 10)
		for at := 1; at < n; at++ {
			equal := changed(comes, int64(at), comes[at-1])
			checkLine(t, equal, copies[int64](7, n), 1)
			noLine(t, changed(comes, int64(at), comes[at-1]-1), copies[int64](7, n), 1)
			noLine(t, changed(comes, int64(at), 0), copies[int64](7, n), 1)
		}
	}
	noLine(t, []int64{1, 0}, []int64{1, 1}, 1)
	noLine(t, []int64{1000000, 0}, []int64{0, 0}, 8)
}

func checkShortest(t *testing.T, takes []int64) {
	t.Helper()
	order := shortestReference(takes)
	is(t, "ShortestFirst of "+show(takes), show(impl.ShortestFirst(takes)), show(order, waitIn(takes, order), true))
}

func TestShortestFirstIsAscending(t *testing.T) {
	d := dice(373)
	for n := range int64(65) {
		for _, most := range []int64{0, 1, 5, 100, 1000000} {
			for range 4 {
				checkShortest(t, d.integers(n, 0, most))
			}
		}
		checkShortest(t, rising(n, 3))
		falling := rising(n, 3)
		slices.Reverse(falling)
		checkShortest(t, falling)
	}
}

// TestShortestFirstWaitsLeast compares it with all orders.
func TestShortestFirstWaitsLeast(t *testing.T) {
	d := dice(374)
	for n := int64(1); n <= 6; n++ {
		for range 20 {
			takes := d.integers(n, 0, d.from(1, 9))
			_, wait, _ := impl.ShortestFirst(takes)
			var waits []int64
			for _, order := range orders(n) {
				waits = append(waits, waitIn(takes, order))
			}
			is(t, "ShortestFirst of "+show(takes), show(wait), show(least(waits)))
		}
	}
}

// TestShortestFirstIsALine has the same takes come at once, in its order.
func TestShortestFirstIsALine(t *testing.T) {
	d := dice(375)
	for n := range int64(65) {
		takes := d.integers(n, 0, 1000000)
		order, wait, ok := impl.ShortestFirst(takes)
		var sorted []int64
		for _, i := range order {
			sorted = append(sorted, takes[i])
		}
		is(t, "WaitOf "+show(sorted), show(impl.WaitOf(make([]int64, n), sorted, 1)), show(wait, ok))
	}
}

func TestShortestFirstAtTheEdges(t *testing.T) {
	for _, e := range []struct {
		takes, order []int64
		wait         int64
	}{
		{[]int64{3, 1, 2}, []int64{1, 2, 0}, 4}, // of the example
		{nil, nil, 0},
		{[]int64{5}, []int64{0}, 0},
		{[]int64{2, 2, 2}, []int64{0, 1, 2}, 6}, // equal takes
		{[]int64{2, 1, 2, 1}, []int64{1, 3, 0, 2}, 7},
		{[]int64{0, 4, 0}, []int64{0, 2, 1}, 0},
		{copies[int64](0, 64), numbersTo(64), 0},
		{copies[int64](1000000, 64), numbersTo(64), 2016000000},
	} {
		is(t, "ShortestFirst of "+show(e.takes), show(impl.ShortestFirst(e.takes)), show(e.order, e.wait, true))
	}
}

func TestShortestFirstHasLimits(t *testing.T) {
	for _, n := range []int{65, 66, 128, 1000} {
		is(t, "ShortestFirst of "+show(int64(n)), show(impl.ShortestFirst(make([]int64, n))), "[] 0 false")
	}
	for n := int64(1); n <= 64; n += 9 {
		for at := range n {
			for _, wrong := range wrongTimes() {
				takes := changed(make([]int64, n), at, wrong)
				is(t, "ShortestFirst of "+show(takes), show(impl.ShortestFirst(takes)), "[] 0 false")
			}
		}
	}
}
