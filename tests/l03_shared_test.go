package tests

import (
	"testing"

	"loop.example/g01365/impl"
)

func TestAnyNumberOfWorkersFindsTheSameShares(t *testing.T) {
	d := dice(91)
	for n := range 17 {
		var list []impl.Worths
		var want [][]int64
		for range n {
			w := d.worths(d.from(1, 6), -impl.MaxSetWorth, impl.MaxSetWorth)
			list, want = append(list, w), append(want, sharesReference(w))
		}
		for workers := int64(1); workers <= impl.MaxWorkers; workers++ {
			for range 3 {
				is(t, "SharesShared", show(impl.SharesShared(list, workers)), show(want, true))
			}
		}
	}
	is(t, "SharesShared of none", show(impl.SharesShared(nil, 1)), "[] true")
	is(t, "SharesShared of the same", show(impl.SharesShared([]impl.Worths{together(), together(), equalWorths(1, -2)}, 8)), "[[6 6] [6 6] [-2]] true")
}

func TestSharesSharedHasLimits(t *testing.T) {
	is(t, "SharesShared of 16", show(impl.SharesShared(copies(together(), 16), 8)), show(copies([]int64{6, 6}, 16), true))
	is(t, "SharesShared of 17", show(impl.SharesShared(copies(together(), 17), 8)), "[] false")
	is(t, "SharesShared of 500", show(impl.SharesShared(copies(together(), 500), 1)), "[] false")
	for _, workers := range append(farNumbers(), 0, -1, 9, 1<<32+1) {
		is(t, "SharesShared by "+show(workers), show(impl.SharesShared([]impl.Worths{together()}, workers)), "[] false")
		is(t, "SharesShared of none by "+show(workers), show(impl.SharesShared(nil, workers)), "[] false")
	}
}

func TestSharesSharedNeedsValidWorths(t *testing.T) {
	for _, wrong := range wrongWorths() {
		for at := range 5 {
			list := copies(together(), 5)
			list[at] = wrong
			is(t, "SharesShared with "+show(wrong), show(impl.SharesShared(list, int64(at+1))), "[] false")
		}
		is(t, "SharesShared of "+show(wrong), show(impl.SharesShared([]impl.Worths{wrong}, 8)), "[] false")
	}
}

func TestWorkersEndWithSharesShared(t *testing.T) {
	testWorkersEnd(t, func() {
		impl.SharesShared(copies(together(), 16), 8)
		impl.SharesShared(copies(impl.Worths{}, 16), 8)
		impl.SharesShared(nil, 8)
		impl.SharesShared(copies(together(), 17), 8)
	})
}
