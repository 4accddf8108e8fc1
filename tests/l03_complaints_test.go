package tests

import (
	"math"
	"testing"

	"loop.example/g01365/impl"
)

// someShares returns shares near those of an order, so that some are in the core.
func (d *dice) someShares(w impl.Worths, by int64) []int64 {
	shares := moreReference(w, d.order(w.Players))
	for i := range shares {
		shares[i] *= by
	}
	if last := len(shares) - 1; d.next()%2 == 0 {
		from, to, part := d.from(0, int64(last)), d.from(0, int64(last)), d.from(-3, 3)
		shares[from] -= part
		shares[to] += part
	}
	for i := range shares {
		shares[i] = min(max(shares[i], -1000000), 1000000)
	}
	return shares
}

// wrongShares are none of worths of three players.
func wrongShares() [][]int64 {
	list := [][]int64{nil, {0}, {0, 0}, {0, 0, 0, 0}, make([]int64, 1000)}
	for _, share := range append(farNumbers(), 1000001, -1000001) {
		list = append(list, []int64{share, 0, 0}, []int64{0, share, 0}, []int64{0, 0, share})
	}
	return list
}

func TestWorstComplaintIsTheFirstGreatestOne(t *testing.T) {
	d := dice(71)
	for _, w := range append(someWorths(), smallWorths()...) {
		for range 3 {
			by := d.from(1, 20)
			shares := d.someShares(w, by)
			want := "0 0 false"
			if w.Players > 1 {
				worst, set := worstReference(w, shares, by)
				want = show(worst, set, true)
			}
			is(t, "WorstComplaint of "+show(w, shares, by), show(impl.WorstComplaint(w, shares, by)), want)
		}
	}
}

func TestWorstComplaintAtTheEdges(t *testing.T) {
	nothing := impl.Worths{Players: 3, Worths: make([]int64, 8)}
	for _, c := range []struct {
		w      impl.Worths
		shares []int64
		by     int64
		want   string
	}{
		{together(), []int64{3, 3}, 1, "-3 1 true"},   // all sets but the whole have less than 0
		{together(), []int64{4, 2}, 1, "-2 2 true"},   // neither nobody nor the whole counts
		{together(), []int64{0, 0}, 1000, "0 1 true"}, // the first one of several
		{nothing, []int64{0, 0, 0}, 1, "0 1 true"},    // of all
		{nothing, []int64{1, 0, -1}, 1, "1 4 true"},   // 4 and 6
		{nothing, []int64{1, -1, -1}, 7, "2 6 true"},  // of two players
		{nothing, []int64{1, 1, -2}, 1, "2 4 true"},   // the last player alone
		{nothing, []int64{-1, -1, 2}, 1, "2 3 true"},  // the others
		{equalWorths(2, 10000), []int64{-1000000, -1000000}, 1000, "11000000 1 true"},
		{equalWorths(2, -10000), []int64{1000000, 1000000}, 1000, "-11000000 1 true"},
		{equalWorths(6, 10000), copies[int64](-1000000, 6), 1000, "15000000 31 true"},
		{equalWorths(6, -10000), copies[int64](1000000, 6), 1000, "-11000000 1 true"},
		{equalWorths(1, 5), []int64{5}, 1, "0 0 false"}, // no set of one player is left
		{equalWorths(1, 5), []int64{0}, 1, "0 0 false"},
	} {
		is(t, "WorstComplaint of "+show(c.w, c.shares, c.by), show(impl.WorstComplaint(c.w, c.shares, c.by)), c.want)
	}
}

func TestComplaintsNeedSharesAndBy(t *testing.T) {
	w := equalWorths(3, 0)
	for _, shares := range wrongShares() {
		is(t, "WorstComplaint of "+show(shares), show(impl.WorstComplaint(w, shares, 1)), "0 0 false")
		is(t, "InCore of "+show(shares), show(impl.InCore(w, shares, 1)), "false false")
		is(t, "KernelStep of "+show(shares), show(impl.KernelStep(w, shares)), "[] false")
	}
	shares := []int64{0, 0, 0}
	for _, by := range append(farNumbers(), 0, -1, 1001) {
		is(t, "WorstComplaint by "+show(by), show(impl.WorstComplaint(w, shares, by)), "0 0 false")
		is(t, "InCore by "+show(by), show(impl.InCore(w, shares, by)), "false false")
	}
	for _, by := range []int64{1, 2, 999, 1000} {
		is(t, "WorstComplaint by "+show(by), show(impl.WorstComplaint(w, shares, by)), "0 1 true")
		is(t, "InCore by "+show(by), show(impl.InCore(w, shares, by)), "true true")
	}
	for at := range 3 {
		for _, share := range []int64{1000000, -1000000} {
			far := []int64{0, 0, 0}
			far[at] = share
			is(t, "InCore of "+show(far), show(impl.InCore(w, far, 1)), "false true")
			worst, set := worstReference(w, far, 1)
			is(t, "WorstComplaint of "+show(far), show(impl.WorstComplaint(w, far, 1)), show(worst, set, true))
		}
	}
}

func TestInCoreLooksAtAllSets(t *testing.T) {
	d := dice(72)
	for _, w := range append(someWorths(), smallWorths()...) {
		for range 5 {
			by := d.from(1, 4)
			shares := d.someShares(w, by)
			is(t, "InCore of "+show(w, shares, by), show(impl.InCore(w, shares, by)), show(inCoreReference(w, shares, by), true))
		}
	}
	for _, c := range []struct {
		w      impl.Worths
		shares []int64
		by     int64
		want   string
	}{
		{together(), []int64{3, 3}, 1, "true true"},
		{together(), []int64{6, 0}, 1, "true true"},
		{together(), []int64{7, -1}, 1, "false true"}, // the second one alone has more
		{together(), []int64{3, 4}, 1, "false true"},  // more than there is
		{together(), []int64{3, 2}, 1, "false true"},  // less than there is
		{together(), []int64{3, 3}, 2, "false true"},
		{together(), []int64{5, 7}, 2, "true true"},
		{equalWorths(1, -5), []int64{-5}, 1, "true true"},
		{equalWorths(1, -5), []int64{-4}, 1, "false true"},
		{equalWorths(1, 1000), []int64{1000000}, 1000, "true true"},
		{equalWorths(1, 0), []int64{0}, 1000, "true true"},
		{equalWorths(2, -1), []int64{-1, 0}, 1, "true true"},
		{equalWorths(2, -2), []int64{-1, -1}, 1, "true true"},
		{equalWorths(2, -2), []int64{-3, 1}, 1, "false true"},
		{equalWorths(2, 10000), []int64{1000000, 1000000}, 200, "false true"},
	} {
		is(t, "InCore of "+show(c.w, c.shares, c.by), show(impl.InCore(c.w, c.shares, c.by)), c.want)
	}
}

// TestOrdersOfConvexWorthsAreInTheCore has all orders of up to five players, and
// their mean, the shares of all orders.
func TestOrdersOfConvexWorthsAreInTheCore(t *testing.T) {
	d := dice(73)
	for range 200 {
		w := d.worthsOfDividends(d.from(1, 5), 0, 3)
		for range 20 {
			order := d.order(w.Players)
			more, _ := impl.MoreInOrder(w, order)
			is(t, "InCore of "+show(w, order), show(impl.InCore(w, more, 1)), "true true")
		}
		shares, count, _ := impl.SharesOf(w)
		is(t, "InCore of SharesOf "+show(w), show(impl.InCore(w, shares, count)), "true true")
	}
	for _, w := range smallWorths() {
		allIn := true
		for _, order := range [][]int64{{0, 1, 2}, {0, 2, 1}, {1, 0, 2}, {1, 2, 0}, {2, 0, 1}, {2, 1, 0}, {0, 1}, {1, 0}} {
			if int64(len(order)) == w.Players {
				more, _ := impl.MoreInOrder(w, order)
				in, _ := impl.InCore(w, more, 1)
				allIn = allIn && in
			}
		}
		// Just those worths are convex of which all orders are in the core.
		is(t, "IsConvex of "+show(w), show(impl.IsConvex(w)), show(allIn, true))
	}
}

func TestCorePlansAreAllOnes(t *testing.T) {
	d := dice(74)
	for _, w := range someWorths() {
		most := d.from(0, 6)
		want := "[] false"
		if w.Players <= 4 {
			want = show(plansReference(w, most), true)
		}
		is(t, "CorePlans of "+show(w, most), show(impl.CorePlans(w, most)), want)
	}
	for range 300 {
		w := d.worthsOfDividends(d.from(1, 4), -1, 3)
		is(t, "CorePlans of "+show(w), show(impl.CorePlans(w, 6)), show(plansReference(w, 6), true))
	}
	for _, w := range smallWorths() {
		is(t, "CorePlans of "+show(w), show(impl.CorePlans(w, 2)), show(plansReference(w, 2), true))
	}
}

func TestCorePlansAtTheEdges(t *testing.T) {
	for _, c := range []struct {
		w    impl.Worths
		most int64
		want string
	}{
		{together(), 6, "[[0 6] [1 5] [2 4] [3 3] [4 2] [5 1] [6 0]] true"},
		{together(), 3, "[[3 3]] true"},
		{together(), 2, "[] true"},
		{together(), 0, "[] true"},
		{equalWorths(2, 0), 0, "[[0 0]] true"},
		{equalWorths(2, -1), 6, "[] true"}, // numbers are at least 0
		{equalWorths(1, 6), 6, "[[6]] true"},
		{equalWorths(1, 6), 5, "[] true"},
		{equalWorths(1, 0), 6, "[[0]] true"},
		{equalWorths(4, 0), 6, "[[0 0 0 0]] true"},
		{equalWorths(5, 0), 6, "[] false"},
		{equalWorths(5, 0), 0, "[] false"},
		{equalWorths(6, 0), 1, "[] false"},
		{equalWorths(2, 0), 7, "[] false"},
		{equalWorths(2, 0), -1, "[] false"},
		{equalWorths(1, 0), 7, "[] false"},
	} {
		is(t, "CorePlans of "+show(c.w, c.most), show(impl.CorePlans(c.w, c.most)), c.want)
	}
	for _, most := range farNumbers() {
		is(t, "CorePlans up to "+show(most), show(impl.CorePlans(together(), most)), "[] false")
	}
	// All plans with the sum 24, and no other ones: 6 for each.
	w := impl.Worths{Players: 4, Worths: make([]int64, 16)}
	w.Worths[15] = 24
	is(t, "CorePlans of 24", show(impl.CorePlans(w, 6)), "[[6 6 6 6]] true")
	w.Worths[15] = 1
	is(t, "CorePlans of 1", show(impl.CorePlans(w, 6)), "[[0 0 0 1] [0 0 1 0] [0 1 0 0] [1 0 0 0]] true")
}

func checkStep(t *testing.T, w impl.Worths, shares []int64) {
	t.Helper()
	want := "[] false"
	if w.Players > 1 {
		next := stepReference(w, shares)
		want = show(next, true)
		for _, share := range next {
			if share < -1000000 || share > 1000000 {
				want = "[] false"
			}
		}
	}
	is(t, "KernelStep of "+show(w, shares), show(impl.KernelStep(w, shares)), want)
}

func TestKernelStepMovesHalfOfTheGreatestDifference(t *testing.T) {
	d := dice(75)
	for _, w := range append(someWorths(), smallWorths()...) {
		checkStep(t, w, d.someShares(w, 1))
		checkStep(t, w, d.integers(w.Players, -4, 4))
		checkStep(t, w, d.integers(w.Players, -1000000, 1000000))
	}
}

func TestKernelStepAtTheEdges(t *testing.T) {
	nothing := impl.Worths{Players: 3, Worths: make([]int64, 8)}
	for _, c := range []struct {
		w      impl.Worths
		shares []int64
		want   string
	}{
		{together(), []int64{3, 3}, "[3 3] true"},
		{together(), []int64{2, 4}, "[3 3] true"},
		{together(), []int64{4, 2}, "[3 3] true"},
		{together(), []int64{3, 4}, "[3 4] true"}, // a difference of 1
		{together(), []int64{4, 3}, "[4 3] true"},
		{together(), []int64{3, 5}, "[4 4] true"},    // of 2
		{together(), []int64{3, 6}, "[4 5] true"},    // of 3
		{together(), []int64{6, 3}, "[5 4] true"},    // of 3, rounded down, not up
		{together(), []int64{1, 5}, "[3 3] true"},    // of 4
		{nothing, []int64{0, 0, 0}, "[0 0 0] true"},  // of 0 for all pairs
		{nothing, []int64{0, 2, 2}, "[1 1 2] true"},  // the pairs 0 1 and 0 2 differ by 2
		{nothing, []int64{2, 0, 2}, "[1 1 2] true"},  // 1 0 comes before 1 2
		{nothing, []int64{2, 2, 0}, "[1 2 1] true"},  // 2 0 comes before 2 1
		{nothing, []int64{2, 0, 0}, "[1 1 0] true"},  // 1 0 comes before 2 0
		{nothing, []int64{-1, 0, 4}, "[1 0 2] true"}, // 0 2 differs most
		{nothing, []int64{4, 0, -1}, "[2 0 1] true"}, // 2 0 differs most
		{equalWorths(1, 5), []int64{5}, "[] false"},  // there is no pair
		{equalWorths(1, 5), []int64{0}, "[] false"},
	} {
		is(t, "KernelStep of "+show(c.w, c.shares), show(impl.KernelStep(c.w, c.shares)), c.want)
	}
}

func TestKernelStepStaysWithinTheBounds(t *testing.T) {
	far := func(first, second int64) impl.Worths {
		return impl.Worths{Players: 2, Worths: []int64{0, first, second, 0}}
	}
	for _, c := range []struct {
		w      impl.Worths
		shares []int64
		want   string
	}{
		{far(0, 0), []int64{1000000, -1000000}, "[0 0] true"},
		{far(0, 0), []int64{-1000000, 1000000}, "[0 0] true"},
		{far(0, 0), []int64{1000000, 1000000}, "[1000000 1000000] true"},
		{far(1, 0), []int64{1000000, 1000000}, "[1000000 1000000] true"}, // a difference of 1
		{far(2, 0), []int64{1000000, 1000000}, "[] false"},
		{far(2, 0), []int64{999999, 999999}, "[1000000 999998] true"},
		{far(0, 2), []int64{1000000, 1000000}, "[] false"},
		{far(0, 2), []int64{999999, 999999}, "[999998 1000000] true"},
		{far(2, 0), []int64{-1000000, -1000000}, "[] false"}, // the second one gives
		{far(2, 0), []int64{-999999, -999999}, "[-999998 -1000000] true"},
		{far(0, 2), []int64{-1000000, -1000000}, "[] false"},
		{far(0, 2), []int64{-999999, -999999}, "[-1000000 -999998] true"},
		{far(10000, -10000), []int64{1000000, 1000000}, "[] false"},
		{far(10000, -10000), []int64{990000, 990000}, "[1000000 980000] true"},
	} {
		is(t, "KernelStep of "+show(c.w, c.shares), show(impl.KernelStep(c.w, c.shares)), c.want)
	}
}

// TestKernelStepsKeepTheSum gives away what there is, step by step, and as often
// as something moves the differences of that pair are less than 2 behind it.
func TestKernelStepsKeepTheSum(t *testing.T) {
	d := dice(76)
	for range 300 {
		w := d.worths(d.from(2, 5), -20, 20)
		shares := d.integers(w.Players, -30, 30)
		for range 8 {
			next, ok := impl.KernelStep(w, shares)
			what := "KernelStep of " + show(w, shares)
			var moved []int64
			sum := int64(0)
			for i := range next {
				sum += next[i] - shares[i]
				if next[i] != shares[i] {
					moved = append(moved, int64(i))
				}
			}
			is(t, what, show(ok, sum), "true 0")
			if len(moved) == 2 {
				apart := mostWithout(w, next, moved[0], moved[1]) - mostWithout(w, next, moved[1], moved[0])
				is(t, what, show(apart > -2 && apart < 2), "true")
			} else if len(moved) != 0 {
				t.Fatalf("%s moves the shares of %v", what, moved)
			}
			shares = next
		}
	}
}

func TestComplaintsHaveNoOverflow(t *testing.T) {
	w := equalWorths(2, 0)
	for _, shares := range [][]int64{{math.MaxInt64, 1}, {math.MinInt64, math.MinInt64}, {1 << 62, -1 << 62}} {
		is(t, "InCore of "+show(shares), show(impl.InCore(w, shares, 1)), "false false")
		is(t, "KernelStep of "+show(shares), show(impl.KernelStep(w, shares)), "[] false")
		is(t, "WorstComplaint of "+show(shares), show(impl.WorstComplaint(w, shares, 1)), "0 0 false")
	}
}
