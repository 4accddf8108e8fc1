package tests

import (
	"math"
	"math/big"
	"testing"

	"loop.example/g01365/impl"
)

func TestGainsAndWouldGainToTheLastBit(t *testing.T) {
	d := dice(23)
	for _, g := range someGames() {
		rows, columns := d.chances(g.Rows), d.chances(g.Columns)
		a, b, ok := gainsReference(g, rows, columns)
		is(t, "GainsOf "+show(g, rows, columns), show(impl.GainsOf(g, rows, columns)), show(a, b, ok))
		more, ok := wouldGainReference(g, rows, columns)
		is(t, "WouldGain of "+show(g, rows, columns), show(impl.WouldGain(g, rows, columns)), show(more, ok))
	}
}

// TestGainsOfAnyChances has chances of any size, so that some gains are not
// finite, and some are subnormal.
func TestGainsOfAnyChances(t *testing.T) {
	d := dice(24)
	fails := [2][2]int{}
	for range 20000 {
		g := d.game(d.from(1, 3), d.from(1, 3), []int64{0, 1, 1000}[d.next()%3])
		rows, columns := make([]float32, g.Rows), make([]float32, g.Columns)
		for i := range rows {
			rows[i] = float32(math.Abs(float64(d.finite())))
		}
		for k := range columns {
			columns[k] = float32(math.Abs(float64(d.finite())))
		}
		a, b, gains := gainsReference(g, rows, columns)
		is(t, "GainsOf "+show(g, rows, columns), show(impl.GainsOf(g, rows, columns)), show(a, b, gains))
		more, would := wouldGainReference(g, rows, columns)
		is(t, "WouldGain of "+show(g, rows, columns), show(impl.WouldGain(g, rows, columns)), show(more, would))
		fails[bit(gains)][bit(would)]++
	}
	if fails[0][0] == 0 || fails[1][0] == 0 || fails[1][1] == 0 {
		t.Errorf("not all ways to fail are tried: %v", fails)
	}
}

func bit(b bool) int {
	if b {
		return 1
	}
	return 0
}

func TestGainsAtTheEdges(t *testing.T) {
	const none = "00000000 00000000 false"
	minus, least, most := num(0x80000000), num(1), num(0x7f7fffff)
	one := impl.Game{Rows: 1, Columns: 1, A: []int64{1}, B: []int64{-1}}
	thousand := impl.Game{Rows: 1, Columns: 1, A: []int64{1000}, B: []int64{0}}
	other := impl.Game{Rows: 1, Columns: 1, A: []int64{0}, B: []int64{1000}}
	row := impl.Game{Rows: 1, Columns: 3, A: []int64{1, 1, -1}, B: []int64{-1, 1, 1}}
	for _, c := range []struct {
		g             impl.Game
		rows, columns []float32
		want          string
	}{
		{one, []float32{1}, []float32{1}, "3f800000 bf800000 true"},
		{one, []float32{0}, []float32{most}, "00000000 00000000 true"},
		{one, []float32{minus}, []float32{minus}, "00000000 00000000 true"}, // begun with +0
		{one, []float32{minus}, []float32{1}, "00000000 00000000 true"},
		{one, []float32{least}, []float32{1}, "00000001 80000001 true"},        // subnormal ones stay
		{one, []float32{least}, []float32{0.5}, "00000000 00000000 true"},      // a tie, to even
		{thousand, []float32{least}, []float32{0.5}, "00000000 00000000 true"}, // the product of chances first
		{one, []float32{most}, []float32{1}, "7f7fffff ff7fffff true"},
		{one, []float32{most}, []float32{2}, none},
		{one, []float32{5}, []float32{7}, "420c0000 c20c0000 true"}, // no sum is asked for
		{thousand, []float32{most}, []float32{1}, none},
		{other, []float32{most}, []float32{1}, none},
		{equalGame(1, 1, 0), []float32{most}, []float32{2}, none}, // infinity times 0
		{row, []float32{1}, []float32{0x1p24, 1, 0x1p24}, "00000000 3f800000 true"},
		{row, []float32{1}, []float32{0x1p24, 1, 1}, "4b7fffff cb7ffffe true"},
		{row, []float32{1}, []float32{most, most, most}, none}, // in order, the first two alone
	} {
		is(t, "GainsOf "+show(c.g, c.rows, c.columns), show(impl.GainsOf(c.g, c.rows, c.columns)), c.want)
	}
}

func TestChancesMustBeFiniteAndNotBelowZero(t *testing.T) {
	g := equalGame(2, 3, 1)
	good, wide := []float32{0.5, 0.5}, []float32{0.5, 0.25, 0.25}
	wrong := []float32{num(0x7f800000), num(0xff800000), num(0x7fc00000), num(0x7f800001), -1, num(0x80000001), num(0xff7fffff)}
	for _, x := range wrong {
		for i := range good {
			rows := append([]float32(nil), good...)
			rows[i] = x
			is(t, "GainsOf rows "+show(rows), show(impl.GainsOf(g, rows, wide)), "00000000 00000000 false")
			is(t, "WouldGain of rows "+show(rows), show(impl.WouldGain(g, rows, wide)), "00000000 false")
		}
		for i := range wide {
			columns := append([]float32(nil), wide...)
			columns[i] = x
			is(t, "GainsOf columns "+show(columns), show(impl.GainsOf(g, good, columns)), "00000000 00000000 false")
			is(t, "WouldGain of columns "+show(columns), show(impl.WouldGain(g, good, columns)), "00000000 false")
		}
	}
}

func TestChancesMustBeAsManyAsChoices(t *testing.T) {
	g := equalGame(2, 3, 1)
	for m := range 8 {
		for n := range 8 {
			rows, columns := copies[float32](0.5, m), copies[float32](0.5, n)
			wantGains, wantMore := "00000000 00000000 false", "00000000 false"
			if m == 2 && n == 3 {
				wantGains, wantMore = show(float32(1.5), float32(1.5), true), show(float32(0), true)
			}
			is(t, "GainsOf "+show(rows, columns), show(impl.GainsOf(g, rows, columns)), wantGains)
			is(t, "WouldGain of "+show(rows, columns), show(impl.WouldGain(g, rows, columns)), wantMore)
		}
	}
	is(t, "GainsOf none", show(impl.GainsOf(g, nil, nil)), "00000000 00000000 false")
	is(t, "WouldGain of none", show(impl.WouldGain(g, nil, nil)), "00000000 false")
}

func TestWouldGainAtTheEdges(t *testing.T) {
	most := num(0x7f7fffff)
	column := impl.Game{Rows: 2, Columns: 1, A: []int64{-1, 1}, B: []int64{0, 0}}
	row := impl.Game{Rows: 1, Columns: 2, A: []int64{0, 0}, B: []int64{-1, 1}}
	steep := impl.Game{Rows: 2, Columns: 1, A: []int64{1, 1000}, B: []int64{0, 0}}
	for _, c := range []struct {
		g             impl.Game
		rows, columns []float32
		want          string
	}{
		{dilemma(), []float32{0, 1}, []float32{0, 1}, "00000000 true"},
		{dilemma(), []float32{1, 0}, []float32{0, 1}, "3f800000 true"}, // the first player
		{dilemma(), []float32{0, 1}, []float32{1, 0}, "3f800000 true"}, // the second one
		{column, []float32{1, 0}, []float32{1}, "40000000 true"},
		{column, []float32{1, 0}, []float32{most}, "00000000 false"}, // twice as much is not finite
		{row, []float32{1}, []float32{1, 0}, "40000000 true"},
		{row, []float32{most}, []float32{1, 0}, "00000000 false"},
		{steep, []float32{1, 0}, []float32{most}, "00000000 false"}, // gains are finite, a sum is not
		{steep, []float32{0, 1}, []float32{1}, "00000000 true"},
		{equalGame(6, 6, -1000), copies[float32](0, 6), copies[float32](0, 6), "00000000 true"},
		{pennies(), []float32{num(0x80000000), 1}, []float32{1, num(0x80000000)}, "40000000 true"},
		// A whole row loses more than half of one, and the column as much: +0 at least.
		{equalGame(1, 1, -4), []float32{0.5}, []float32{1}, "00000000 true"},
		{equalGame(1, 1, 4), []float32{0.5}, []float32{1}, "40000000 true"},
	} {
		is(t, "WouldGain of "+show(c.g, c.rows, c.columns), show(impl.WouldGain(c.g, c.rows, c.columns)), c.want)
	}
}

// TestNobodyWouldLeaveAnEquilibrium takes each cell for sure, where all sums
// are exact: the cells of PureEquilibria are those that gain nothing more.
func TestNobodyWouldLeaveAnEquilibrium(t *testing.T) {
	for _, g := range append(someGames(), smallGames()...) {
		var cells []int64
		for cell := range int64(len(g.A)) {
			rows, columns := make([]float32, g.Rows), make([]float32, g.Columns)
			row, column := cell/g.Columns, cell%g.Columns
			rows[row], columns[column] = 1, 1
			bestRow, bestColumn := bestRowsReference(g, column)[0], bestColumnsReference(g, row)[0]
			want := float32(max(gainA(g, bestRow, column)-g.A[cell], gainB(g, row, bestColumn)-g.B[cell]))
			is(t, "WouldGain of "+show(g, rows, columns), show(impl.WouldGain(g, rows, columns)), show(want, true))
			if want == 0 {
				cells = append(cells, cell)
			}
		}
		is(t, "PureEquilibria of "+show(g), show(impl.PureEquilibria(g)), show(cells, true))
	}
}

func gcd(m, n int64) int64 {
	return new(big.Int).GCD(nil, nil, big.NewInt(max(m, -m)), big.NewInt(max(n, -n))).Int64()
}

// checkTwoByTwo asks for chances with which both choices of each player gain as
// much, exactly, if there are no pure equilibria.
func checkTwoByTwo(t *testing.T, g impl.Game) {
	t.Helper()
	list, ok := impl.TwoByTwo(g)
	if len(pureReference(g)) > 0 {
		is(t, "TwoByTwo of "+show(g), show(list, ok), "[] false")
		return
	}
	if !ok || len(list) != 4 {
		t.Fatalf("TwoByTwo of %s: got %s", show(g), show(list, ok))
	}
	p, q, r, s := list[0], list[1], list[2], list[3]
	if p <= 0 || p >= q || r <= 0 || r >= s || gcd(p, q) != 1 || gcd(r, s) != 1 {
		t.Fatalf("TwoByTwo of %s: got %s", show(g), show(list, ok))
	}
	is(t, "gains of columns of "+show(g), show(p*g.B[0]+(q-p)*g.B[2]), show(p*g.B[1]+(q-p)*g.B[3]))
	is(t, "gains of rows of "+show(g), show(r*g.A[0]+(s-r)*g.A[1]), show(r*g.A[2]+(s-r)*g.A[3]))
}

func TestTwoByTwoLeavesNothingToGain(t *testing.T) {
	for _, g := range smallGames() {
		checkTwoByTwo(t, g)
	}
	d := dice(25)
	for range 20000 {
		checkTwoByTwo(t, d.game(2, 2, 5))
		checkTwoByTwo(t, d.game(2, 2, impl.MaxGain))
	}
	far := impl.Game{Rows: 2, Columns: 2, A: []int64{1000, -1000, -1000, 999}, B: []int64{-1000, 1000, 999, -1000}}
	is(t, "TwoByTwo of far gains", show(impl.TwoByTwo(far)), "[1999 3999 1999 3999] true")
	uneven := impl.Game{Rows: 2, Columns: 2, A: []int64{2, 0, 0, 1}, B: []int64{0, 3, 1, 0}}
	is(t, "TwoByTwo of other chances", show(impl.TwoByTwo(uneven)), "[1 4 1 3] true")
}

func TestTwoByTwoNeedsTwoAndTwo(t *testing.T) {
	is(t, "TwoByTwo with a pure equilibrium", show(impl.TwoByTwo(dilemma())), "[] false")
	is(t, "TwoByTwo of equal gains", show(impl.TwoByTwo(equalGame(2, 2, 0))), "[] false")
	for _, g := range someGames() {
		if g.Rows != 2 || g.Columns != 2 {
			is(t, "TwoByTwo of "+show(g), show(impl.TwoByTwo(g)), "[] false")
		}
	}
	for _, wider := range []impl.Game{
		{Rows: 2, Columns: 3, A: []int64{1, -1, -1, -1, 1, -1}, B: []int64{-1, 1, -5, 1, -1, -5}},
		{Rows: 3, Columns: 2, A: []int64{1, -1, -1, 1, -5, -5}, B: []int64{-1, 1, 1, -1, 0, 0}},
	} {
		is(t, "PureEquilibria of "+show(wider), show(impl.PureEquilibria(wider)), "[] true")
		is(t, "TwoByTwo of "+show(wider), show(impl.TwoByTwo(wider)), "[] false")
	}
}

// keepsBelow reports whether a mixture of the columns i and k leaves at most the
// value to both rows: the proof from the other side.
func keepsBelow(g impl.Game, i, k int64, value *big.Rat) bool {
	least, most := new(big.Rat), big.NewRat(1, 1)
	for row := range int64(2) {
		// The chance x of i has to have x * slope <= rest.
		slope := big.NewRat(gainA(g, row, i)-gainA(g, row, k), 1)
		rest := new(big.Rat).Sub(value, big.NewRat(gainA(g, row, k), 1))
		if slope.Sign() == 0 {
			if rest.Sign() < 0 {
				return false
			}
			continue
		}
		bound := new(big.Rat).Quo(rest, slope)
		if slope.Sign() > 0 && bound.Cmp(most) < 0 {
			most = bound
		}
		if slope.Sign() < 0 && bound.Cmp(least) > 0 {
			least = bound
		}
	}
	return least.Cmp(most) <= 0
}

// checkTwoRowValue proves the value from both sides, and that no lesser chance
// has it: some column falls behind the value there.
func checkTwoRowValue(t *testing.T, g impl.Game) {
	t.Helper()
	p, q, v, w, ok := impl.TwoRowValue(g)
	what := "TwoRowValue of " + show(g) + ": " + show(p, q, v, w, ok)
	if !ok || q < 1 || w < 1 || p < 0 || p > q || gcd(p, q) != 1 || gcd(v, w) != 1 {
		t.Fatal(what)
	}
	value := big.NewRat(v, w)
	isKept, isLeast, isProved := false, p == 0, false
	for k := range g.Columns {
		gain := big.NewRat(p*gainA(g, 0, k)+(q-p)*gainA(g, 1, k), q)
		if gain.Cmp(value) < 0 {
			t.Fatal(what + ": a column leaves less")
		}
		isKept = isKept || gain.Cmp(value) == 0
		isLeast = isLeast || gain.Cmp(value) == 0 && gainA(g, 0, k) > gainA(g, 1, k)
		for i := range k + 1 {
			isProved = isProved || keepsBelow(g, i, k, value)
		}
	}
	if !isKept || !isLeast || !isProved {
		t.Fatal(what, isKept, isLeast, isProved)
	}
}

func TestTwoRowValueHasProofsFromBothSides(t *testing.T) {
	for _, g := range smallGames() {
		checkTwoRowValue(t, g)
	}
	d := dice(26)
	for range 3000 {
		for _, most := range []int64{1, 3, 20, impl.MaxGain} {
			checkTwoRowValue(t, d.game(2, d.from(1, impl.MaxSide), most))
		}
	}
}

func TestTwoRowValueAtTheEdges(t *testing.T) {
	for _, c := range []struct {
		a    []int64
		want string
	}{
		{[]int64{1, -1, -1, 1}, "1 2 0 1 true"},
		{[]int64{0, 0}, "0 1 0 1 true"}, // all chances are as good
		{[]int64{5, 5, 5, 5, 5, 5}, "0 1 5 1 true"},
		{[]int64{1, 0}, "1 1 1 1 true"},
		{[]int64{0, 1}, "0 1 1 1 true"},
		{[]int64{-3, -4}, "1 1 -3 1 true"},
		{[]int64{3, 5, 2, 4}, "1 1 3 1 true"},
		{[]int64{2, 4, 3, 5}, "0 1 3 1 true"},
		{[]int64{0, 1, 1, 1, 0, 1}, "1 2 1 2 true"},
		{[]int64{2, 0, 0, 1}, "1 3 2 3 true"},
		{[]int64{-2, 0, 0, -1}, "1 3 -2 3 true"},
		{[]int64{0, 1, 4, 1}, "0 1 1 1 true"},       // as good up to 3 / 4
		{[]int64{4, 1, 0, 1}, "1 4 1 1 true"},       // as good from 1 / 4 on
		{[]int64{4, 0, 1, 0, 4, 1}, "1 4 1 1 true"}, // as good from 1 / 4 to 3 / 4
		{[]int64{1000, -1000, -1000, 999}, "1999 3999 -1000 3999 true"},
		{[]int64{-1000, -1000}, "0 1 -1000 1 true"},
		{[]int64{3, 0, 1, 9, 6, 2, 0, 3, 2, 2, 2, 1}, "1 2 3 2 true"}, // four columns meet in a point
	} {
		n := int64(len(c.a) / 2)
		g := impl.Game{Rows: 2, Columns: n, A: c.a, B: copies[int64](1000, len(c.a))}
		checkTwoRowValue(t, g)
		is(t, "TwoRowValue of "+show(g), show(impl.TwoRowValue(g)), c.want)
	}
}

func TestTwoRowValueNeedsTwoRows(t *testing.T) {
	for _, g := range someGames() {
		if g.Rows == 2 {
			checkTwoRowValue(t, g)
			continue
		}
		is(t, "TwoRowValue of "+show(g), show(impl.TwoRowValue(g)), "0 0 0 0 false")
	}
}

// TestTwoRowValueIsBetweenSafeGains compares it with what is safe for sure, and
// with the chances of TwoByTwo.
func TestTwoRowValueIsBetweenSafeGains(t *testing.T) {
	d := dice(27)
	for range 5000 {
		g := d.game(2, d.from(1, 6), 9)
		_, _, v, w, _ := impl.TwoRowValue(g)
		_, gain, _ := impl.SafeRow(g)
		_, loss, _ := impl.SafeColumn(g)
		if v < gain*w || v > loss*w {
			t.Fatalf("%s has the value %d / %d, not from %d to %d", show(g), v, w, gain, loss)
		}
		if g.Columns != 2 {
			continue
		}
		zero, _ := impl.ZeroSum(2, 2, g.A)
		if list, ok := impl.TwoByTwo(zero); ok {
			p, q, _, _, _ := impl.TwoRowValue(zero)
			is(t, "chances of "+show(zero), show(p, q), show(list[0], list[1]))
		}
	}
}
