package tests

import (
	"math"
	"slices"
	"testing"

	"loop.example/g01365/impl"
)

func TestValidWorthsHasLimits(t *testing.T) {
	for _, w := range append(someWorths(), smallWorths()...) {
		is(t, "ValidWorths of "+show(w), show(impl.ValidWorths(w)), "true")
	}
	for _, w := range wrongWorths() {
		is(t, "ValidWorths of "+show(w), show(impl.ValidWorths(w)), "false")
	}
	for players := int64(-2); players <= 9; players++ {
		for sets := range 300 {
			w := impl.Worths{Players: players, Worths: make([]int64, sets)}
			is(t, "ValidWorths of "+show(w), show(impl.ValidWorths(w)), show(isValidReference(players, w.Worths)))
		}
	}
}

func TestValidWorthsLooksAtEachWorth(t *testing.T) {
	for _, players := range []int64{1, 2, 6} {
		for set := range int64(1) << players {
			for _, worth := range []int64{1, -1, 10000, -10000, 10001, -10001, math.MaxInt64, math.MinInt64} {
				w := equalWorths(players, 0)
				w.Worths[set] = worth
				want := set != 0 && worth >= -10000 && worth <= 10000
				is(t, "ValidWorths of "+show(w), show(impl.ValidWorths(w)), show(want))
			}
		}
	}
}

func TestSameWorthsComparesAllIntegers(t *testing.T) {
	list := append(append(someWorths()[:150], wrongWorths()...), smallWorths()[:100]...)
	for i, a := range list {
		is(t, "SameWorths of "+show(a)+" and itself", show(impl.SameWorths(a, copyOfWorths(a))), "true")
		for _, b := range list[i+1:] {
			want := show(show(a) == show(b))
			is(t, "SameWorths of "+show(a)+" and "+show(b), show(impl.SameWorths(a, b)), want)
			is(t, "SameWorths of "+show(b)+" and "+show(a), show(impl.SameWorths(b, a)), want)
		}
	}
	for _, a := range []impl.Worths{together(), equalWorths(6, 3), {Players: -5, Worths: []int64{7, math.MaxInt64}}} {
		for set := range a.Worths {
			b := copyOfWorths(a)
			b.Worths[set]++
			is(t, "SameWorths of "+show(a)+" and "+show(b), show(impl.SameWorths(a, b), impl.SameWorths(b, a)), "false false")
		}
		for _, b := range []impl.Worths{{Players: a.Players + 1, Worths: a.Worths}, {Players: a.Players, Worths: a.Worths[1:]}, {Players: a.Players, Worths: append(slices.Clone(a.Worths), 0)}} {
			is(t, "SameWorths of "+show(a)+" and "+show(b), show(impl.SameWorths(a, b), impl.SameWorths(b, a)), "false false")
		}
	}
	is(t, "SameWorths of nil and an empty list", show(impl.SameWorths(impl.Worths{}, impl.Worths{Worths: []int64{}})), "true")
}

func checkWeighed(t *testing.T, a, b impl.Worths, x, y int64) {
	t.Helper()
	var sums []int64
	for set := range a.Worths {
		sums = append(sums, x*a.Worths[set]+y*b.Worths[set])
	}
	is(t, "WeighWorths of "+show(a, b, x, y), show(impl.WeighWorths(a, b, x, y)), showIfValid(a.Players, sums))
}

func TestWeighWorthsAddsProducts(t *testing.T) {
	d := dice(62)
	for _, a := range someWorths() {
		b := d.worths(a.Players, -40, 40)
		checkWeighed(t, a, b, d.from(-3, 3), d.from(-3, 3))
		checkWeighed(t, b, a, d.from(-100, 100), d.from(-1, 1))
		checkWeighed(t, b, b, d.from(-100, 100), d.from(-100, 100))
		checkWeighed(t, a, a, 1, -1)
		checkWeighed(t, a, a, -1, 0)
	}
	checkWeighed(t, together(), equalWorths(2, -3), 2, 3)
	is(t, "WeighWorths", show(impl.WeighWorths(together(), equalWorths(2, -3), 2, 3)), "{2 [0 -9 -9 3]} true")
}

func TestWeighWorthsHasLimits(t *testing.T) {
	one := equalWorths(2, 1)
	is(t, "WeighWorths by 100", show(impl.WeighWorths(one, one, 100, 100)), "{2 [0 200 200 200]} true")
	is(t, "WeighWorths by -100", show(impl.WeighWorths(one, one, -100, -100)), "{2 [0 -200 -200 -200]} true")
	is(t, "WeighWorths by both", show(impl.WeighWorths(one, one, 100, -100)), "{2 [0 0 0 0]} true")
	for _, factor := range append(farNumbers(), 101, -101) {
		is(t, "WeighWorths by x "+show(factor), show(impl.WeighWorths(one, one, factor, 0)), noWorths)
		is(t, "WeighWorths by y "+show(factor), show(impl.WeighWorths(one, one, 0, factor)), noWorths)
		is(t, "WeighWorths of nothing by "+show(factor), show(impl.WeighWorths(equalWorths(2, 0), one, factor, 0)), noWorths)
	}
	hundred := equalWorths(3, 100)
	is(t, "WeighWorths at MaxSetWorth", show(impl.WeighWorths(hundred, equalWorths(3, 1), 100, 0)), show(equalWorths(3, 10000), true))
	is(t, "WeighWorths beyond MaxSetWorth", show(impl.WeighWorths(hundred, equalWorths(3, 1), 100, 1)), noWorths)
	is(t, "WeighWorths at -MaxSetWorth", show(impl.WeighWorths(hundred, equalWorths(3, 1), -100, 0)), show(equalWorths(3, -10000), true))
	is(t, "WeighWorths below -MaxSetWorth", show(impl.WeighWorths(hundred, equalWorths(3, 1), -100, -1)), noWorths)
	is(t, "WeighWorths of greatest worths", show(impl.WeighWorths(equalWorths(6, 10000), equalWorths(6, 10000), 100, -99)), show(equalWorths(6, 10000), true))
	is(t, "WeighWorths of more players", show(impl.WeighWorths(equalWorths(2, 0), equalWorths(3, 0), 1, 1)), noWorths)
	is(t, "WeighWorths of less players", show(impl.WeighWorths(equalWorths(3, 0), equalWorths(2, 0), 1, 1)), noWorths)
	last := copyOfWorths(hundred)
	last.Worths[7] = 101
	is(t, "WeighWorths of a last one beyond", show(impl.WeighWorths(last, hundred, 100, 0)), noWorths)
	for _, wrong := range wrongWorths() {
		right := equalWorths(min(max(wrong.Players, 1), 6), 0)
		is(t, "WeighWorths of "+show(wrong), show(impl.WeighWorths(wrong, right, 0, 1)), noWorths)
		is(t, "WeighWorths with "+show(wrong), show(impl.WeighWorths(right, wrong, 1, 0)), noWorths)
		is(t, "WeighWorths of two "+show(wrong), show(impl.WeighWorths(wrong, wrong, 0, 0)), noWorths)
	}
}

func TestDividendsAreThoseOfAllParts(t *testing.T) {
	for _, w := range append(someWorths(), smallWorths()...) {
		dividends, ok := impl.DividendsOf(w)
		is(t, "DividendsOf "+show(w), show(dividends, ok), show(dividendsReference(w), true))
		is(t, "FromDividends of "+show(dividends), show(impl.FromDividends(w.Players, dividends)), show(w, true))
	}
	w := impl.Worths{Players: 3, Worths: []int64{0, 1, 2, 5, -4, 0, 7, 30}}
	is(t, "DividendsOf "+show(w), show(impl.DividendsOf(w)), "[0 1 2 2 -4 3 9 17] true")
	is(t, "DividendsOf one player", show(impl.DividendsOf(equalWorths(1, -10000))), "[0 -10000] true")
}

func TestDividendsHaveNoLimitOfWorths(t *testing.T) {
	// The worths of sets with an even number of players count for the whole.
	w := equalWorths(6, 10000)
	for _, team := range teamsOf(6) {
		if len(team)%2 == 1 {
			w.Worths[numberOf(team)] = -10000
		}
	}
	dividends, ok := impl.DividendsOf(w)
	is(t, "the greatest dividend", show(dividends[63], ok), "630000 true")
	is(t, "FromDividends of greatest ones", show(impl.FromDividends(6, dividends)), show(w, true))
}

func TestFromDividendsAddsAllParts(t *testing.T) {
	d := dice(63)
	for range 1000 {
		players := d.from(1, 6)
		dividends := d.integers(1<<players, -400, 400)
		dividends[0] = d.from(0, 9) / 9
		want := noWorths
		if dividends[0] == 0 {
			want = showIfValid(players, partSums(players, dividends))
		}
		is(t, "FromDividends of "+show(players, dividends), show(impl.FromDividends(players, dividends)), want)
	}
}

func TestFromDividendsHasLimits(t *testing.T) {
	for _, c := range []struct {
		players   int64
		dividends []int64
		want      string
	}{
		{1, []int64{0, 10000}, "{1 [0 10000]} true"},
		{1, []int64{0, -10000}, "{1 [0 -10000]} true"},
		{1, []int64{0, 10001}, noWorths},
		{1, []int64{0, -10001}, noWorths},
		{2, []int64{0, -10000, -10000, 30000}, "{2 [0 -10000 -10000 10000]} true"},
		{2, []int64{0, -10000, -10000, 30001}, noWorths},
		{2, []int64{0, 10000, 10000, -30000}, "{2 [0 10000 10000 -10000]} true"},
		{2, []int64{0, 10000, 10000, -30001}, noWorths},
		{2, []int64{0, 0, 0, 1000000}, noWorths},
		{2, []int64{0, 0, 0, -1000000}, noWorths},
		{2, []int64{0, 0, 0, 1000001}, noWorths},
		{2, []int64{0, 0, 0, -1000001}, noWorths},
		{2, []int64{0, math.MaxInt64, 1, math.MinInt64}, noWorths},
		{2, []int64{0, math.MinInt64, math.MinInt64, 0}, noWorths},
		{2, []int64{1, 0, 0, 0}, noWorths},
		{2, []int64{-1, 0, 0, 0}, noWorths},
		{2, []int64{1, -1, -1, 1}, noWorths},
		{2, []int64{0, 0, 0}, noWorths},
		{2, []int64{0, 0, 0, 0, 0}, noWorths},
		{2, nil, noWorths},
		{0, []int64{0}, noWorths},
		{0, nil, noWorths},
		{-1, []int64{0, 0}, noWorths},
		{6, make([]int64, 64), show(equalWorths(6, 0), true)},
		{6, make([]int64, 63), noWorths},
		{7, make([]int64, 128), noWorths},
		{64, nil, noWorths},
		{64, []int64{0}, noWorths},
		{math.MaxInt64, []int64{0, 0}, noWorths},
		{math.MinInt64, []int64{0, 0}, noWorths},
	} {
		is(t, "FromDividends of "+show(c.players, c.dividends), show(impl.FromDividends(c.players, c.dividends)), c.want)
	}
}

func TestMoreInOrderIsWhatPlayersBring(t *testing.T) {
	d := dice(64)
	for _, w := range someWorths() {
		for range 5 {
			order := d.order(w.Players)
			more, ok := impl.MoreInOrder(w, order)
			is(t, "MoreInOrder of "+show(w, order), show(more, ok), show(moreReference(w, order), true))
			sum := int64(0)
			for _, n := range more {
				sum += n
			}
			is(t, "all that is brought to "+show(w, order), show(sum), show(w.Worths[len(w.Worths)-1]))
		}
	}
	w := impl.Worths{Players: 3, Worths: []int64{0, 1, 2, 5, -4, 0, 7, 30}}
	is(t, "MoreInOrder 2 0 1", show(impl.MoreInOrder(w, []int64{2, 0, 1})), "[4 30 -4] true")
	is(t, "MoreInOrder 1 2 0", show(impl.MoreInOrder(w, []int64{1, 2, 0})), "[23 2 5] true")
	is(t, "MoreInOrder of one player", show(impl.MoreInOrder(equalWorths(1, -7), []int64{0})), "[-7] true")
}

func TestMoreInOrderNeedsAnOrder(t *testing.T) {
	w := equalWorths(3, 4)
	for _, order := range [][]int64{
		nil, {0}, {0, 1}, {2, 1}, // players are missing
		{0, 0, 1}, {0, 1, 0}, {2, 1, 1}, {1, 1, 1}, // come twice
		{0, 1, 2, 0}, {0, 1, 2, 2}, {0, 1, 2, 3}, copies[int64](0, 1000),
		{0, 1, 3}, {-1, 0, 1}, {0, 1, -2}, {0, 1, 64}, {64, 65, 66},
		{0, 1, 2 + 1<<32}, {0, 1, math.MaxInt64}, {math.MinInt64, 1, 2},
	} {
		is(t, "MoreInOrder "+show(order), show(impl.MoreInOrder(w, order)), "[] false")
	}
	is(t, "MoreInOrder of no order of one", show(impl.MoreInOrder(equalWorths(1, 4), nil)), "[] false")
}

func TestSharesAddWhatIsBroughtInAllOrders(t *testing.T) {
	for _, w := range append(someWorths(), smallWorths()...) {
		want := show(sharesReference(w), factorial(int(w.Players)), true)
		is(t, "SharesOf "+show(w), show(impl.SharesOf(w)), want)
	}
	w := impl.Worths{Players: 3, Worths: []int64{0, 1, 2, 5, -4, 0, 7, 30}}
	is(t, "SharesOf "+show(w), show(impl.SharesOf(w)), "[55 79 46] 6 true")
	is(t, "SharesOf one player", show(impl.SharesOf(equalWorths(1, -10000))), "[-10000] 1 true")
	is(t, "SharesOf greatest worths", show(impl.SharesOf(equalWorths(6, 10000))), show(copies[int64](1200000, 6), int64(720), true))
}

// TestSharesGiveAwayAll has, too, nothing for those who bring nothing, and as
// much for those who bring the same.
func TestSharesGiveAwayAll(t *testing.T) {
	for _, w := range append(someWorths(), smallWorths()...) {
		shares, count, _ := impl.SharesOf(w)
		sum := int64(0)
		for i, share := range shares {
			sum += share
			if isNull, _ := impl.IsNull(w, int64(i)); isNull && share != 0 {
				t.Fatalf("%s gives %d to %d, who brings nothing", show(w), share, i)
			}
			for k := range i {
				if areAlike, _ := impl.AreAlike(w, int64(i), int64(k)); areAlike && share != shares[k] {
					t.Fatalf("%s gives %v, not the same to %d and %d", show(w), shares, i, k)
				}
			}
		}
		is(t, "the sum of the shares of "+show(w), show(sum), show(count*w.Worths[len(w.Worths)-1]))
	}
}

// TestSharesOfSums are the sums of shares.
func TestSharesOfSums(t *testing.T) {
	d := dice(65)
	for range 300 {
		a := d.worths(d.from(1, 6), -50, 50)
		b := d.worths(a.Players, -50, 50)
		x, y := d.from(-100, 100), d.from(-100, 100)
		weighed, ok := impl.WeighWorths(a, b, x, y)
		sharesA, _, _ := impl.SharesOf(a)
		sharesB, _, _ := impl.SharesOf(b)
		var want []int64
		for i := range sharesA {
			want = append(want, x*sharesA[i]+y*sharesB[i])
		}
		if !ok {
			t.Fatalf("WeighWorths of %s fails", show(a, b, x, y))
		}
		is(t, "SharesOf "+show(weighed), show(impl.SharesOf(weighed)), show(want, factorial(int(a.Players)), true))
	}
}

func TestSwingsAddWhatIsBroughtToAllSets(t *testing.T) {
	for _, w := range append(someWorths(), smallWorths()...) {
		is(t, "SwingsOf "+show(w), show(impl.SwingsOf(w)), show(swingsReference(w), true))
	}
	majority, _ := impl.VoteWorths(2, []int64{1, 1, 1})
	is(t, "SwingsOf a majority", show(impl.SwingsOf(majority)), "[2 2 2] true")
	is(t, "SwingsOf one player", show(impl.SwingsOf(equalWorths(1, -3))), "[-3] true")
}

func TestIsNullLooksAtAllSets(t *testing.T) {
	for _, w := range append(someWorths(), smallWorths()...) {
		for player := range w.Players {
			is(t, "IsNull of "+show(w, player), show(impl.IsNull(w, player)), show(isNullReference(w, player), true))
		}
		for _, player := range wrongPlayers(w.Players) {
			is(t, "IsNull of "+show(w, player), show(impl.IsNull(w, player)), "false false")
		}
	}
	d := dice(66)
	for range 300 {
		players := d.from(1, 6)
		player := d.from(0, players-1)
		w := withNobody(d.worths(players, -9, 9), player)
		is(t, "IsNull of "+show(w, player), show(impl.IsNull(w, player)), "true true")
		// One worth alone, that of somebody, is another one.
		w.Worths[d.from(1, 1<<players-1)] += 1 - 2*d.from(0, 1)
		is(t, "IsNull of "+show(w, player), show(impl.IsNull(w, player)), "false true")
	}
}

func TestAreAlikeLooksAtAllSets(t *testing.T) {
	for _, w := range append(someWorths(), smallWorths()...) {
		for i := range w.Players {
			for k := range w.Players {
				want := "false false"
				if i != k {
					want = show(areAlikeReference(w, i, k), true)
				}
				is(t, "AreAlike of "+show(w, i, k), show(impl.AreAlike(w, i, k)), want)
			}
		}
		for _, player := range wrongPlayers(w.Players) {
			is(t, "AreAlike of "+show(w, player), show(impl.AreAlike(w, player, 0)), "false false")
			is(t, "AreAlike with "+show(w, player), show(impl.AreAlike(w, 0, player)), "false false")
			is(t, "AreAlike of both "+show(w, player), show(impl.AreAlike(w, player, player)), "false false")
		}
	}
	d := dice(67)
	for range 300 {
		players := d.from(2, 6)
		order := d.order(players)
		i, k := order[0], order[1]
		w := withTwins(d.worths(players, -9, 9), i, k)
		is(t, "AreAlike of "+show(w, i, k), show(impl.AreAlike(w, i, k)), "true true")
		is(t, "AreAlike of "+show(w, k, i), show(impl.AreAlike(w, k, i)), "true true")
		// A set with both, or with none, may be worth anything.
		set := d.from(1, 1<<players-1)
		w.Worths[set]++
		want := set>>i%2 == set>>k%2
		is(t, "AreAlike of "+show(w, i, k), show(impl.AreAlike(w, i, k)), show(want, true))
	}
}

func TestRisingJoiningAndConvex(t *testing.T) {
	for _, w := range append(someWorths(), smallWorths()...) {
		is(t, "IsRising of "+show(w), show(impl.IsRising(w)), show(isRisingReference(w), true))
		is(t, "IsJoining of "+show(w), show(impl.IsJoining(w)), show(isJoiningReference(w), true))
		is(t, "IsConvex of "+show(w), show(impl.IsConvex(w)), show(isConvexReference(w), true))
	}
	for _, c := range []struct {
		w    impl.Worths
		want string
	}{
		{equalWorths(1, 0), "true true true true true true"},
		{equalWorths(1, 5), "true true true true true true"},
		{equalWorths(1, -5), "false true true true true true"}, // less than the set of nobody
		{equalWorths(2, 5), "true true false true false true"},
		{equalWorths(2, -5), "false true true true true true"},
		{together(), "true true true true true true"},
		{impl.Worths{Players: 2, Worths: []int64{0, 3, 4, 7}}, "true true true true true true"},
		{impl.Worths{Players: 2, Worths: []int64{0, 3, 4, 6}}, "true true false true false true"},
		{impl.Worths{Players: 2, Worths: []int64{0, 3, 4, 3}}, "false true false true false true"},
		// Two join with more, but a third one brings less to both than to one.
		{impl.Worths{Players: 3, Worths: []int64{0, 0, 0, 5, 0, 5, 5, 6}}, "true true true true false true"},
		{impl.Worths{Players: 3, Worths: []int64{0, 0, 0, 5, 0, 5, 5, 10}}, "true true true true true true"},
		{impl.Worths{Players: 3, Worths: []int64{0, 0, 0, 5, 0, 5, 5, 9}}, "true true true true false true"},
	} {
		rising, one := impl.IsRising(c.w)
		joining, two := impl.IsJoining(c.w)
		convex, three := impl.IsConvex(c.w)
		is(t, "IsRising, IsJoining and IsConvex of "+show(c.w), show(rising, one, joining, two, convex, three), c.want)
	}
}

// TestConvexWorthsAreJoining has dividends of at least 0 for sets of several.
func TestConvexWorthsAreJoining(t *testing.T) {
	d := dice(68)
	for range 200 {
		w := d.worthsOfDividends(d.from(1, 6), 0, 3)
		is(t, "IsConvex of "+show(w), show(impl.IsConvex(w)), "true true")
		is(t, "IsJoining of "+show(w), show(impl.IsJoining(w)), "true true")
	}
}

func TestOtherOfIsWhatIsLeft(t *testing.T) {
	for _, w := range append(someWorths(), smallWorths()...) {
		other, ok := impl.OtherOf(w)
		is(t, "OtherOf "+show(w), show(other, ok), showIfValid(w.Players, otherReference(w)))
		if !ok {
			continue
		}
		is(t, "OtherOf the other one of "+show(w), show(impl.OtherOf(other)), show(w, true))
		is(t, "SharesOf the other one of "+show(w), show(impl.SharesOf(other)), show(impl.SharesOf(w)))
	}
	far := impl.Worths{Players: 2, Worths: []int64{0, -4000, 0, 6000}}
	is(t, "OtherOf at MaxSetWorth", show(impl.OtherOf(far)), "{2 [0 6000 10000 6000]} true")
	far.Worths[1]--
	is(t, "OtherOf beyond MaxSetWorth", show(impl.OtherOf(far)), noWorths)
	near := impl.Worths{Players: 2, Worths: []int64{0, 0, 4000, -6000}}
	is(t, "OtherOf at -MaxSetWorth", show(impl.OtherOf(near)), "{2 [0 -10000 -6000 -6000]} true")
	near.Worths[2]++
	is(t, "OtherOf below -MaxSetWorth", show(impl.OtherOf(near)), noWorths)
}

func TestWithoutPlayerLeavesAllOthers(t *testing.T) {
	for _, w := range append(someWorths(), smallWorths()...) {
		for player := range w.Players {
			is(t, "WithoutPlayer "+show(w, player), show(impl.WithoutPlayer(w, player)), showIfValid(w.Players-1, withoutReference(w, player)))
		}
		for _, player := range wrongPlayers(w.Players) {
			is(t, "WithoutPlayer "+show(w, player), show(impl.WithoutPlayer(w, player)), noWorths)
		}
	}
	w := impl.Worths{Players: 3, Worths: []int64{0, 1, 2, 5, -4, 0, 7, 30}}
	is(t, "WithoutPlayer 0", show(impl.WithoutPlayer(w, 0)), "{2 [0 2 -4 7]} true")
	is(t, "WithoutPlayer 1", show(impl.WithoutPlayer(w, 1)), "{2 [0 1 -4 0]} true")
	is(t, "WithoutPlayer 2", show(impl.WithoutPlayer(w, 2)), "{2 [0 1 2 5]} true")
	is(t, "WithoutPlayer, the last of 1", show(impl.WithoutPlayer(equalWorths(1, 0), 0)), noWorths)
}
