package tests

import (
	"math"
	"slices"
	"testing"

	"loop.example/g01365/impl"
)

func TestValidWishesHasLimits(t *testing.T) {
	for _, w := range append(someWishes(), smallWishes()...) {
		is(t, "ValidWishes of "+show(w), show(impl.ValidWishes(w)), "true")
	}
	for _, w := range wrongWishes() {
		is(t, "ValidWishes of "+show(w), show(impl.ValidWishes(w)), "false")
	}
	for left := range 12 {
		for right := range 12 {
			w := impl.Wishes{Left: make([][]int64, left), Right: make([][]int64, right)}
			is(t, "ValidWishes of "+show(w), show(impl.ValidWishes(w)), show(left >= 1 && left <= 8 && left == right))
		}
	}
}

func TestValidWishesLooksAtEachNumber(t *testing.T) {
	for _, w := range []impl.Wishes{crosswise(1), twoPairs(), sixteenStable(), alikeWishes(8)} {
		n := int64(len(w.Left))
		for at := range w.Left {
			for place := range w.Left[at] {
				for _, number := range []int64{-1, 0, n - 1, n, 8, 64, 1 << 32, math.MaxInt64, math.MinInt64} {
					isThere := number >= 0 && number < n
					left, right := copyOfWishes(w), copyOfWishes(w)
					left.Left[at][place], right.Right[at][place] = number, number
					is(t, "ValidWishes of "+show(left), show(impl.ValidWishes(left)), show(isThere && number == w.Left[at][place]))
					is(t, "ValidWishes of "+show(right), show(impl.ValidWishes(right)), show(isThere && number == w.Right[at][place]))
					// Alone, or with others that are not the same, it is valid.
					left.Left[at], right.Right[at] = []int64{number}, []int64{number}
					is(t, "ValidWishes of "+show(left), show(impl.ValidWishes(left)), show(isThere))
					is(t, "ValidWishes of "+show(right), show(impl.ValidWishes(right)), show(isThere))
				}
			}
		}
	}
}

// changedWishes differ from w, each in one place.
func changedWishes(w impl.Wishes) []impl.Wishes {
	list := []impl.Wishes{
		{Left: w.Left, Right: append(copiesOf(w.Right), nil)},
		{Left: append(copiesOf(w.Left), nil), Right: w.Right},
		{Left: w.Left[1:], Right: w.Right}, {Left: w.Left, Right: w.Right[:len(w.Right)-1]},
		{Left: w.Left}, {Right: w.Right}, {},
	}
	for at := range w.Left {
		for _, change := range []func(list []int64) []int64{
			func(list []int64) []int64 { return append(slices.Clone(list), 0) },
			func(list []int64) []int64 { return append([]int64{0}, list...) },
			func(list []int64) []int64 { return list[:max(len(list)-1, 0)] },
			func(list []int64) []int64 { return list[min(len(list), 1):] },
			func(list []int64) []int64 { return slices.Concat(list, list) },
			func(list []int64) []int64 { list = slices.Clone(list); slices.Reverse(list); return list },
			func(list []int64) []int64 { return nil },
		} {
			list = append(list,
				impl.Wishes{Left: replaced(w.Left, int64(at), change(w.Left[at])), Right: w.Right},
				impl.Wishes{Left: w.Left, Right: replaced(w.Right, int64(at), change(w.Right[at]))})
		}
	}
	return list
}

func TestSameWishesComparesAllLists(t *testing.T) {
	check := func(a, b impl.Wishes) {
		t.Helper()
		want := show(a) == show(b)
		is(t, "SameWishes of "+show(a, b), show(impl.SameWishes(a, b), impl.SameWishes(b, a)), show(want, want))
	}
	list := append(append(someWishes()[:60], wrongWishes()[:60]...), smallWishes()[:60]...)
	for i, a := range list {
		check(a, copyOfWishes(a))
		for _, b := range list[i:] {
			check(a, b)
		}
	}
	for _, w := range []impl.Wishes{twoPairs(), sixteenStable(), crosswise(8), emptyWishes(3), {Left: [][]int64{{7, -7}, nil}, Right: [][]int64{{math.MaxInt64}, {5}}}} {
		for _, other := range changedWishes(w) {
			check(w, other)
		}
	}
	is(t, "lists of nobody", show(impl.SameWishes(impl.Wishes{Left: [][]int64{nil}}, impl.Wishes{Left: [][]int64{{}}, Right: [][]int64{}})), "true")
	is(t, "both sides exchanged", show(impl.SameWishes(impl.Wishes{Left: [][]int64{{0}}}, impl.Wishes{Right: [][]int64{{0}}})), "false")
}

func TestTurnWishesExchangesBothSides(t *testing.T) {
	for _, w := range append(someWishes(), smallWishes()...) {
		turned, ok := impl.TurnWishes(w)
		is(t, "TurnWishes of "+show(w), show(turned, ok), show(impl.Wishes{Left: w.Right, Right: w.Left}, true))
		is(t, "TurnWishes twice of "+show(w), show(impl.TurnWishes(turned)), show(w, true))
	}
}

// checkMatch compares all that is told of a list that may be a match.
func checkMatch(t *testing.T, w impl.Wishes, match []int64) {
	t.Helper()
	what := " of " + show(w, match)
	isMatch := isMatchReference(w, match)
	is(t, "IsMatch"+what, show(impl.IsMatch(w, match)), show(isMatch))
	if !isMatch {
		is(t, "BlockOf"+what, show(impl.BlockOf(w, match)), "0 0 false")
		is(t, "IsStable"+what, show(impl.IsStable(w, match)), "false false")
		return
	}
	is(t, "BlockOf"+what, show(impl.BlockOf(w, match)), show(blockReference(w, match)))
	is(t, "IsStable"+what, show(impl.IsStable(w, match)), show(isStableReference(w, match), true))
}

func TestMatchesAreBlockedByThoseWhoWouldRather(t *testing.T) {
	d := dice(211)
	blocked := 0
	for _, w := range someWishes() {
		n := int64(len(w.Left))
		for range 6 {
			match := d.match(w)
			checkMatch(t, w, match)
			if _, _, ok := blockReference(w, match); ok {
				blocked++
			}
			// One number of a match becomes another one.
			changed := slices.Clone(match)
			changed[d.from(0, n-1)] = d.from(-1, n)
			checkMatch(t, w, changed)
		}
		checkMatch(t, w, copies[int64](-1, int(n)))
		checkMatch(t, w, numbersTo(n))
		for _, match := range wrongMatches(n) {
			checkMatch(t, w, match)
		}
	}
	if blocked < 1000 {
		t.Errorf("only %d matches are blocked", blocked)
	}
}

func TestAllMatchesOfSmallWishes(t *testing.T) {
	for _, w := range smallWishes() {
		for n := range int64(25) {
			checkMatch(t, w, []int64{n%5 - 2, n/5 - 2})
		}
		for n := int64(-2); n < 3; n++ {
			checkMatch(t, w, []int64{n})
			checkMatch(t, w, []int64{-1, -1, n})
		}
		checkMatch(t, w, nil)
	}
}

func TestMatchesAtTheEdges(t *testing.T) {
	one := impl.Wishes{Left: [][]int64{{0}}, Right: [][]int64{{0}}}
	oneSided := impl.Wishes{Left: [][]int64{{0, 1}, {0, 1}}, Right: [][]int64{{1}, nil}}
	for _, c := range []struct {
		w      impl.Wishes
		match  []int64
		is     bool
		block  string
		stable string
	}{
		{one, []int64{0}, true, "0 0 false", "true true"},
		{one, []int64{-1}, true, "0 0 true", "false true"}, // both have nobody
		{one, nil, false, "0 0 false", "false false"},
		{one, []int64{-2}, false, "0 0 false", "false false"},
		{one, []int64{1}, false, "0 0 false", "false false"},
		{one, []int64{0, -1}, false, "0 0 false", "false false"},
		{one, []int64{-1, -1}, false, "0 0 false", "false false"},
		{emptyWishes(1), []int64{-1}, true, "0 0 false", "true true"},
		{emptyWishes(1), []int64{0}, false, "0 0 false", "false false"},
		{emptyWishes(8), copies[int64](-1, 8), true, "0 0 false", "true true"},
		{twoPairs(), []int64{0, 1}, true, "0 0 false", "true true"},
		{twoPairs(), []int64{1, 0}, true, "0 0 false", "true true"},
		{twoPairs(), []int64{-1, -1}, true, "0 0 true", "false true"},
		{twoPairs(), []int64{0, -1}, true, "1 0 true", "false true"},
		{twoPairs(), []int64{-1, 0}, true, "0 1 true", "false true"},
		{twoPairs(), []int64{0, 0}, false, "0 0 false", "false false"},
		{twoPairs(), []int64{1, 1}, false, "0 0 false", "false false"},
		// Only 1 and 0 take one another; 0 asks in vain.
		{oneSided, []int64{-1, 0}, true, "0 0 false", "true true"},
		{oneSided, []int64{-1, -1}, true, "1 0 true", "false true"},
		{oneSided, []int64{0, -1}, false, "0 0 false", "false false"},
		{oneSided, []int64{-1, 1}, false, "0 0 false", "false false"},
		// The right number 1 is the dearer one for 0, but 0 is told first.
		{impl.Wishes{Left: [][]int64{{1, 0}, {1}}, Right: [][]int64{{0}, {0, 1}}}, []int64{-1, 1}, true, "0 0 true", "false true"},
		{impl.Wishes{Left: [][]int64{{1, 0}, {1}}, Right: [][]int64{{0}, {0, 1}}}, []int64{0, 1}, true, "0 1 true", "false true"},
		{impl.Wishes{Left: [][]int64{{1, 0}, {1}}, Right: [][]int64{{0}, {0, 1}}}, []int64{1, -1}, true, "0 0 false", "true true"},
		// Each one blocks who has somebody, or is had by somebody, less dear.
		{impl.Wishes{Left: [][]int64{{0, 1}, {0, 1}}, Right: [][]int64{{0, 1}, {0, 1}}}, []int64{1, 0}, true, "0 0 true", "false true"},
		{impl.Wishes{Left: [][]int64{{0, 1}, {0, 1}}, Right: [][]int64{{1, 0}, {0, 1}}}, []int64{0, 1}, true, "1 0 true", "false true"},
		{impl.Wishes{Left: [][]int64{{0, 1}, {0, 1}}, Right: [][]int64{{1, 0}, {0, 1}}}, []int64{0, -1}, true, "1 0 true", "false true"},
		// 1 has nobody, and is taken by 1, who would rather keep whom it has.
		{impl.Wishes{Left: [][]int64{{1}, {1}}, Right: [][]int64{nil, {0, 1}}}, []int64{1, -1}, true, "0 0 false", "true true"},
		{impl.Wishes{Left: [][]int64{{1}, {1}}, Right: [][]int64{nil, {0, 1}}}, []int64{-1, 1}, true, "0 1 true", "false true"},
	} {
		what := " of " + show(c.w, c.match)
		is(t, "IsMatch"+what, show(impl.IsMatch(c.w, c.match)), show(c.is))
		is(t, "BlockOf"+what, show(impl.BlockOf(c.w, c.match)), c.block)
		is(t, "IsStable"+what, show(impl.IsStable(c.w, c.match)), c.stable)
		checkMatch(t, c.w, c.match)
	}
}
