package tests

import (
	"math"
	"slices"
	"testing"

	"loop.example/g01365/impl"
)

func TestCutAndChooseHalvesAndTakesMore(t *testing.T) {
	d := dice(171)
	takes := 0
	for _, c := range someCakes() {
		want := "00000000 false false"
		if c.Players == 2 {
			cut, takesFirst := chooseReference(c)
			want = show(cut, takesFirst, true)
		}
		is(t, "CutAndChoose of "+show(c), show(impl.CutAndChoose(c)), want)
	}
	for range 2000 {
		c := d.cake(2, d.from(1, 16), d.from(1, 1000))
		cut, takesFirst := chooseReference(c)
		is(t, "CutAndChoose of "+show(c), show(impl.CutAndChoose(c)), show(cut, takesFirst, true))
		end := float32(c.Pieces)
		first, rest := cakeReference(c, 0, 0, cut), cakeReference(c, 0, cut, end)
		is(t, "CutAndChoose of "+show(c)+" halves", show(math.Abs(float64(first)-float64(rest)) <= 1e-4*float64(allCake(c, 0))), "true")
		if takesFirst {
			takes++
		}
	}
	if takes < 500 || takes > 1500 {
		t.Errorf("the second player takes the first part %d times of 2000", takes)
	}
}

func TestCutAndChooseAtTheEdges(t *testing.T) {
	for _, c := range []struct {
		cake impl.Cake
		want string
	}{
		{twoPieces(), show(float32(1), true, true)},
		{pieces([]int64{3, 1}, []int64{1, 1}), show(over32(2, 3), false, true)},
		{equalPieces(2, 1, 1), show(float32(0.5), true, true)}, // as much as the rest
		{equalPieces(2, 16, 1000), show(float32(8), true, true)},
		{equalPieces(2, 3, 5), show(float32(1.5), true, true)},
		{pieces([]int64{0, 0, 1, 1}, []int64{1, 1, 1, 0}), show(float32(3), true, true)},
		{pieces([]int64{0, 0, 1, 1}, []int64{0, 0, 0, 1}), show(float32(3), false, true)},
		{pieces([]int64{1, 0, 0, 1}, []int64{0, 1, 1, 0}), show(float32(1), false, true)}, // before the dry pieces
		{pieces([]int64{0, 1}, []int64{1, 0}), show(float32(1.5), true, true)},
		{pieces([]int64{1, 0}, []int64{0, 1}), show(float32(0.5), false, true)},
		{pieces([]int64{1, 2}, []int64{5, 5}), show(float32(1.25), true, true)},
		{pieces([]int64{2, 1}, []int64{5, 5}), show(float32(0.75), false, true)},
		{pieces([]int64{1}), "00000000 false false"}, // one player
		{equalPieces(3, 2, 1), "00000000 false false"},
		{equalPieces(6, 16, 1000), "00000000 false false"},
	} {
		is(t, "CutAndChoose of "+show(c.cake), show(impl.CutAndChoose(c.cake)), c.want)
	}
}

func TestMovingKnifeGivesToTheNearestMark(t *testing.T) {
	d := dice(172)
	check := func(c impl.Cake) {
		owners, cuts := knifeReference(c)
		is(t, "MovingKnife of "+show(c), show(impl.MovingKnife(c)), show(owners, cuts, true))
	}
	for _, c := range someCakes() {
		check(c)
	}
	for range 3000 {
		check(d.cake(d.from(1, 6), d.from(1, 16), d.from(1, 1000)))
	}
}

// TestMovingKnifeIsFair gives each player as much as all of its worth divided by
// Players, but for what is rounded, and equal marks to the first player.
func TestMovingKnifeIsFair(t *testing.T) {
	for _, c := range someCakes() {
		owners, cuts, _ := impl.MovingKnife(c)
		from := float32(0)
		for part, owner := range owners {
			share := float64(allCake(c, owner)) / float64(c.Players)
			has := float64(cakeReference(c, owner, from, cuts[part]))
			is(t, "MovingKnife of "+show(c, owner), show(has >= share*(1-1e-3)), "true")
			from = cuts[part]
		}
		sorted := slices.Clone(owners)
		slices.Sort(sorted)
		is(t, "MovingKnife of "+show(c), show(sorted, slices.IsSorted(cuts)), show(numbersTo(c.Players), true))
	}
}

func TestMovingKnifeAtTheEdges(t *testing.T) {
	third := over32(1, 3)
	for _, c := range []struct {
		cake   impl.Cake
		owners []int64
		cuts   []float32
	}{
		{twoPieces(), []int64{1, 0}, []float32{over32(2, 3), 2}},
		{pieces([]int64{7}), []int64{0}, []float32{1}}, // one player gets all
		{equalPieces(1, 16, 3), []int64{0}, []float32{16}},
		{pieces([]int64{0, 1, 0}), []int64{0}, []float32{3}},
		// Equal marks are those of the first player.
		{equalPieces(2, 1, 1), []int64{0, 1}, []float32{0.5, 1}},
		{equalPieces(4, 4, 5), []int64{0, 1, 2, 3}, []float32{1, 2, 3, 4}},
		{equalPieces(3, 1, 1), []int64{0, 1, 2}, []float32{third, plus(third, third), 1}},
		{pieces([]int64{0, 2}, []int64{2, 0}, []int64{4, 0}), []int64{1, 2, 0}, []float32{third, plus(third, over32(over32(4, 3), 4)), 2}},
		{pieces([]int64{1, 1}, []int64{0, 1}, []int64{0, 1}), []int64{0, 1, 2}, []float32{over32(2, 3), plus(1, third), 2}},
		// 5 / 3 / 5 is rounded to less than 1 / 3.
		{pieces([]int64{1, 1}, []int64{0, 1}, []int64{0, 5}), []int64{0, 2, 1}, []float32{over32(2, 3), plus(1, over32(over32(5, 3), 5)), 2}},
		// What comes behind dry pieces is marked behind them.
		{pieces([]int64{0, 0, 4, 4}, []int64{0, 0, 0, 1}), []int64{0, 1}, []float32{3, 4}},
		{pieces([]int64{0, 0, 0, 1}, []int64{0, 0, 4, 4}), []int64{1, 0}, []float32{3, 4}},
		// The player 0 has had most before, and marks the end.
		{pieces([]int64{9, 0, 0}, []int64{6, 0, 0}, []int64{3, 0, 0}), []int64{0, 1, 2}, []float32{third, plus(third, third), 3}},
		{pieces([]int64{6, 0, 0, 3}, []int64{0, 0, 0, 1}, []int64{9, 0, 0, 0}), []int64{2, 0, 1}, []float32{third, plus(third, 0.5), 4}},
	} {
		is(t, "MovingKnife of "+show(c.cake), show(impl.MovingKnife(c.cake)), show(c.owners, c.cuts, true))
	}
	owners, cuts := knifeReference(equalPieces(6, 16, 1000))
	is(t, "MovingKnife of six players", show(impl.MovingKnife(equalPieces(6, 16, 1000))), show(owners, cuts, true))
	is(t, "their order", show(owners), show(numbersTo(6)))
}

func TestCakeEnvyComparesParts(t *testing.T) {
	d := dice(173)
	for _, c := range someCakes() {
		for range 8 {
			owners, cuts := d.order(c.Players), d.cuts(c)
			is(t, "CakeEnvy of "+show(c, owners, cuts), show(impl.CakeEnvy(c, owners, cuts)), show(cakeEnvyReference(c, owners, cuts), true))
		}
		// Whoever cuts and chooses, or stops a knife, can be asked about.
		owners, cuts, _ := impl.MovingKnife(c)
		is(t, "CakeEnvy of "+show(c, owners, cuts), show(impl.CakeEnvy(c, owners, cuts)), show(cakeEnvyReference(c, owners, cuts), true))
	}
}

// TestWhoChoosesEnviesNobody has the second player, who takes what is worth more.
func TestWhoChoosesEnviesNobody(t *testing.T) {
	d := dice(174)
	for range 500 {
		c := d.cake(2, d.from(1, 16), 20)
		cut, takesFirst, _ := impl.CutAndChoose(c)
		owners := []int64{0, 1}
		if takesFirst {
			owners = []int64{1, 0}
		}
		table, ok := impl.CakeEnvy(c, owners, []float32{cut, float32(c.Pieces)})
		what := "CakeEnvy of " + show(c, owners, cut)
		is(t, what, show(ok, table[2] <= 0, math.Abs(float64(table[1])) <= 1e-4*float64(allCake(c, 0))), "true true true")
	}
}

func TestCakeEnvyAtTheEdges(t *testing.T) {
	minus := num(0x80000000)
	for _, c := range []struct {
		cake   impl.Cake
		owners []int64
		cuts   []float32
		want   []float32
	}{
		{twoPieces(), []int64{1, 0}, []float32{1, 2}, []float32{0, 0, -2, 0}},
		{twoPieces(), []int64{0, 1}, []float32{1, 2}, []float32{0, 0, 2, 0}},
		{twoPieces(), []int64{0, 1}, []float32{0, 2}, []float32{0, 2, -4, 0}}, // who has nothing envies all
		{twoPieces(), []int64{0, 1}, []float32{minus, 2}, []float32{0, 2, -4, 0}},
		{twoPieces(), []int64{0, 1}, []float32{2, 2}, []float32{0, -2, 4, 0}},
		{twoPieces(), []int64{1, 0}, []float32{2, 2}, []float32{0, 2, -4, 0}},
		{pieces([]int64{5}), []int64{0}, []float32{1}, []float32{0}},
		{equalPieces(3, 1, 4), []int64{2, 0, 1}, []float32{0.25, 0.25, 1}, []float32{0, 3, 1, -3, 0, -2, -1, 2, 0}},
		{equalPieces(3, 3, 4), []int64{2, 0, 1}, []float32{0, minus, 3}, []float32{0, 12, 0, -12, 0, -12, 0, 12, 0}},
		{equalPieces(3, 3, 4), []int64{2, 0, 1}, []float32{3, 3, 3}, []float32{0, 0, 12, 0, 0, 12, -12, -12, 0}},
	} {
		is(t, "CakeEnvy of "+show(c.cake, c.owners, c.cuts), show(impl.CakeEnvy(c.cake, c.owners, c.cuts)), show(c.want, true))
	}
}

func TestCakeEnvyNeedsOwnersAndCuts(t *testing.T) {
	c := equalPieces(3, 4, 5)
	for _, owners := range append(wrongOwners(3, 3), []int64{0, 1, 1}, []int64{0, 0, 2}, []int64{2, 1, 2}, []int64{0, 1}, []int64{0, 1, 2, 2}, []int64{0, 1, 2, 3}) {
		is(t, "CakeEnvy of "+show(owners), show(impl.CakeEnvy(c, owners, []float32{1, 2, 4})), "[] false")
	}
	owners := []int64{2, 0, 1}
	for _, cuts := range [][]float32{
		nil, {4}, {1, 4}, {1, 2, 3, 4}, {1, 4, 4, 4}, {1, 2}, make([]float32, 1000),
		{1, 2, 3}, {1, 2, num(0x407fffff)}, {1, 2, num(0x40800001)}, {0, 0, 0}, // the last one is not the end
		{2, 1, 4}, {1, num(0x3f7fffff), 4}, {4, 3, 4}, {num(1), 0, 4}, {num(1), num(0x80000000), 4}, // they fall
		{5, 5, 5}, {4, 5, 4}, {1, 5, 4}, {5, 4, 4}, {-1, 1, 4}, {num(0x80000001), 1, 4}, {1, -1, 4},
	} {
		is(t, "CakeEnvy of "+show(cuts), show(impl.CakeEnvy(c, owners, cuts)), "[] false")
	}
	for _, wrong := range wrongPlaces() {
		for at := range 3 {
			cuts := []float32{1, 2, 4}
			cuts[at] = wrong
			is(t, "CakeEnvy of "+show(cuts), show(impl.CakeEnvy(c, owners, cuts)), "[] false")
		}
		is(t, "CakeEnvy of "+show(wrong), show(impl.CakeEnvy(c, owners, copies(wrong, 3))), "[] false")
	}
	is(t, "CakeEnvy of right ones", show(impl.CakeEnvy(c, owners, []float32{1, 2, 4})), show(cakeEnvyReference(c, owners, []float32{1, 2, 4}), true))
}
