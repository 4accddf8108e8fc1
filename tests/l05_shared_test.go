package tests

import (
	"testing"

	"loop.example/g01365/impl"
)

func TestAnyNumberOfWorkersFindsTheSameMatches(t *testing.T) {
	d := dice(251)
	for n := range 9 {
		var list []impl.Wishes
		var want [][]int64
		for range n {
			w := d.wishes(d.from(1, 8), 1)
			list, want = append(list, w), append(want, bestForLeft(w.Left, w.Right))
		}
		for workers := int64(1); workers <= impl.MaxWorkers; workers++ {
			for range 5 {
				is(t, "WishesShared of "+show(list, workers), show(impl.WishesShared(list, workers)), show(want, true))
			}
		}
	}
	is(t, "WishesShared of none", show(impl.WishesShared(nil, 1)), "[] true")
	is(t, "WishesShared of the same", show(impl.WishesShared([]impl.Wishes{twoPairs(), twoPairs(), emptyWishes(3)}, 8)), "[[0 1] [0 1] [-1 -1 -1]] true")
}

func TestWishesSharedHasLimits(t *testing.T) {
	is(t, "WishesShared of 8", show(impl.WishesShared(copies(twoPairs(), 8), 8)), show(copies([]int64{0, 1}, 8), true))
	is(t, "WishesShared of 9", show(impl.WishesShared(copies(twoPairs(), 9), 8)), "[] false")
	is(t, "WishesShared of 500", show(impl.WishesShared(copies(twoPairs(), 500), 1)), "[] false")
	for _, workers := range append(farNumbers(), 0, -1, 9, 1<<32+1) {
		is(t, "WishesShared by "+show(workers), show(impl.WishesShared([]impl.Wishes{twoPairs()}, workers)), "[] false")
		is(t, "WishesShared of none by "+show(workers), show(impl.WishesShared(nil, workers)), "[] false")
	}
}

func TestWishesSharedNeedsValidWishes(t *testing.T) {
	for _, wrong := range wrongWishes() {
		for at := range 5 {
			list := copies(twoPairs(), 5)
			list[at] = wrong
			is(t, "WishesShared with "+show(wrong), show(impl.WishesShared(list, int64(at+1))), "[] false")
		}
		is(t, "WishesShared of "+show(wrong), show(impl.WishesShared([]impl.Wishes{wrong}, 8)), "[] false")
	}
}

func TestWorkersEndWithWishesShared(t *testing.T) {
	testWorkersEnd(t, func() {
		impl.WishesShared(copies(twoPairs(), 8), 8)
		impl.WishesShared(copies(impl.Wishes{}, 8), 8)
		impl.WishesShared(nil, 8)
		impl.WishesShared(copies(twoPairs(), 9), 8)
	})
}
