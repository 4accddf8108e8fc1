package tests

import (
	"testing"

	"loop.example/g01365/impl"
)

// leastParts are those of all players, one after another.
func leastParts(v impl.Values) []int64 {
	var parts []int64
	for i := range v.Players {
		parts = append(parts, leastPartReference(v, i))
	}
	return parts
}

func TestAnyNumberOfWorkersFindsTheSameParts(t *testing.T) {
	d := dice(181)
	list := []impl.Values{twoThings(), equalThings(1, 1, 0), equalThings(6, 4, 3), equalThings(2, 8, 1000)}
	for players := int64(1); players <= impl.MaxHeirs; players++ {
		list = append(list, d.values(players, 4, 1000), d.values(players, 3, 9))
	}
	for _, v := range list {
		want := show(leastParts(v), true)
		for workers := int64(1); workers <= impl.MaxWorkers; workers++ {
			for range 3 {
				is(t, "PartsShared of "+show(v, workers), show(impl.PartsShared(v, workers)), want)
			}
		}
	}
	for n, v := range append(fewOwnings(someValues()), smallValues()...) {
		is(t, "PartsShared of "+show(v), show(impl.PartsShared(v, int64(n%8+1))), show(leastParts(v), true))
	}
}

func TestPartsSharedHasLimits(t *testing.T) {
	for _, workers := range append(farNumbers(), 0, -1, 9, 1<<32+1) {
		is(t, "PartsShared by "+show(workers), show(impl.PartsShared(twoThings(), workers)), "[] false")
	}
	for _, v := range []impl.Values{equalThings(3, 8, 1), equalThings(6, 5, 1), equalThings(6, 8, 1000)} {
		for workers := int64(0); workers <= 9; workers++ {
			is(t, "PartsShared of "+show(v, workers), show(impl.PartsShared(v, workers)), "[] false")
		}
	}
}

func TestWorkersEndWithPartsShared(t *testing.T) {
	testWorkersEnd(t, func() {
		impl.PartsShared(equalThings(6, 2, 1), 8)
		impl.PartsShared(equalThings(6, 8, 1), 8)
		impl.PartsShared(twoThings(), 8)
		impl.PartsShared(impl.Values{}, 8)
	})
}
