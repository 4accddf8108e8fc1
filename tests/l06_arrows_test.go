package tests

import (
	"math"
	"testing"

	"loop.example/g01365/impl"
)

func checkArrows(t *testing.T, choices []int64, n int64) {
	t.Helper()
	is(t, "ArrowsOf "+show(choices, n), show(impl.ArrowsOf(choices, n)), show(arrowsReference(choices, n), true))
}

func TestArrowsPointToChoices(t *testing.T) {
	d := dice(381)
	for n := int64(1); n <= impl.MaxLine; n++ {
		checkArrows(t, numbersTo(n), n)
		for _, size := range []int64{1, 2, 5, 63, 64} {
			checkArrows(t, d.integers(size, 0, n-1), n)
		}
	}
	for _, e := range []struct {
		choices []int64
		n       int64
		want    []complex64
	}{
		{[]int64{0}, 1, []complex64{1}},
		{[]int64{0, 0}, 4, []complex64{1, 1}},
		{[]int64{0, 1, 2, 3}, 4, []complex64{1, 1i, -1, -1i}},
		{[]int64{32, 16, 48}, 64, []complex64{-1, 1i, -1i}},
		{[]int64{1, 0}, 2, []complex64{-1, 1}},
		// A third of a turn as a 32-bit number, and its sine.
		{[]int64{1}, 3, []complex64{impl.PhasorOf(float64(num(0x3eaaaaab)))}},
		{[]int64{2}, 3, []complex64{impl.PhasorOf(float64(num(0x3f2aaaab)))}},
	} {
		arrows, ok := impl.ArrowsOf(e.choices, e.n)
		is(t, "how many arrows of "+show(e.choices, e.n), show(int64(len(arrows)), ok), show(int64(len(e.want)), true))
		for i, arrow := range arrows {
			// Zeros of both signs are equal here.
			is(t, "an arrow of "+show(e.choices, e.n), show(arrow == e.want[i]), "true")
		}
		checkArrows(t, e.choices, e.n)
	}
}

func TestArrowsOfHasLimits(t *testing.T) {
	fails := func(choices []int64, n int64) {
		t.Helper()
		is(t, "ArrowsOf "+show(choices, n), show(impl.ArrowsOf(choices, n)), "[] false")
	}
	for size := range 67 {
		_, ok := impl.ArrowsOf(make([]int64, size), 3)
		is(t, "ArrowsOf "+show(int64(size)), show(ok), show(size >= 1 && size <= 64))
	}
	fails(nil, 1)
	fails(make([]int64, 65), 64)
	fails(make([]int64, 1000), 2)
	for _, n := range append(farNumbers(), 0, -1, 65, 66, 128, 1<<32+1) {
		fails([]int64{0}, n)
		fails([]int64{-1}, n)
		fails(nil, n)
	}
	for n := int64(1); n <= 64; n += 9 {
		for at := range int64(5) {
			for _, wrong := range wrongPlayers(n) {
				fails(changed(make([]int64, 5), at, wrong), n)
			}
			checkArrows(t, changed(make([]int64, 5), at, n-1), n)
		}
	}
}

// checkMean compares the mean of arrows and its turn, which there is not of a mean
// of 0.
func checkMean(t *testing.T, arrows []complex64) {
	t.Helper()
	mean := meanReference(arrows)
	is(t, "MeanArrow of "+show(arrows), show(impl.MeanArrow(arrows)), showMean(mean))
	want := noNumber
	if showMean(mean) != noMean && (real(mean) != 0 || imag(mean) != 0) {
		want = show(impl.AngleOf(mean), true)
	}
	is(t, "TurnOfMean of "+show(arrows), show(impl.TurnOfMean(arrows)), want)
}

// someArrows are lists of all kinds: short and long, near to one another and far,
// and those that cancel out, or nearly so.
func someArrows() [][]complex64 {
	var list [][]complex64
	d := dice(382)
	for n := 1; n <= impl.MaxLine; n++ {
		var any, round, tiny, huge, turned []complex64
		for range n {
			any = append(any, d.pair())
			round = append(round, impl.PhasorOf(float64(d.next()>>11)/0x1p53))
			tiny = append(tiny, complex(num(uint32(d.from(0, 9))), num(uint32(d.from(0, 9))|0x80000000)))
			huge = append(huge, complex(num(uint32(d.from(0x7e000000, 0x7f7fffff))), -num(uint32(d.from(0x7e000000, 0x7f7fffff)))))
		}
		for _, arrow := range round {
			turned = append(turned, complex(-real(arrow), -imag(arrow)))
		}
		list = append(list, any, round, tiny, huge, arrowsReference(numbersTo(int64(n)), int64(n)))
		if n <= 32 {
			list = append(list, append(turned, round...))
		}
	}
	return list
}

func TestMeansAddArrowsPartByPart(t *testing.T) {
	for _, arrows := range someArrows() {
		checkMean(t, arrows)
	}
}

func TestMeansAtTheEdges(t *testing.T) {
	minus, tiny, most := num(0x80000000), num(1), float32(math.MaxFloat32)
	none := noNumber
	for _, e := range []struct {
		arrows []complex64
		mean   string
		turn   string
	}{
		{[]complex64{1, 1i}, show(complex64(complex(0.5, 0.5)), true), show(float32(0.125), true)},
		{[]complex64{2, 0}, show(complex64(1), true), show(float32(0), true)}, // a turn of 0
		{[]complex64{-3}, show(complex64(-3), true), show(float32(0.5), true)},
		{[]complex64{-2i, -2i}, show(complex64(-2i), true), show(float32(-0.25), true)},
		{copies[complex64](5i, 64), show(complex64(5i), true), show(float32(0.25), true)},
		// Arrows that cancel out have no turn.
		{[]complex64{1, -1}, show(complex64(0), true), none},
		{[]complex64{1, 1i, -1, -1i}, show(complex64(0), true), none},
		{[]complex64{0}, show(complex64(0), true), none},
		{[]complex64{3 + 4i, -3 - 4i}, show(complex64(0), true), none},
		{[]complex64{3 + 4i, -3 - 3i}, show(complex64(0.5i), true), show(float32(0.25), true)}, // in one part
		{[]complex64{3 + 4i, -4 - 4i}, show(complex64(-0.5), true), show(float32(0.5), true)},
		// Zeros with signs are lost in a sum that begins with 0.
		{[]complex64{complex(minus, minus)}, show(complex64(0), true), none},
		{[]complex64{complex(minus, minus), complex(minus, minus)}, show(complex64(0), true), none},
		{[]complex64{complex(-1, minus)}, show(complex64(-1), true), show(float32(0.5), true)},
		{[]complex64{complex(minus, -1)}, show(complex64(-1i), true), show(float32(-0.25), true)},
		// A half of the least number is a zero, with its sign.
		{[]complex64{complex(tiny, 0), 0}, show(complex64(0), true), none},
		{[]complex64{complex(0, -tiny), 0}, show(complex(0, minus), true), none},
		{[]complex64{complex(-tiny, -tiny), 0}, show(complex(minus, minus), true), none},
		{[]complex64{complex(1, -tiny), 0}, show(complex(0.5, minus), true), show(float32(0), true)},
		{[]complex64{complex(-1, -tiny), 0}, show(complex(-0.5, minus), true), show(float32(0.5), true)},
		// Sums that are not finite, whatever comes behind.
		{[]complex64{complex(most, 0), complex(most, 0)}, noMean, none},
		{[]complex64{complex(0, -most), complex(0, -most), complex(0, most), complex(0, most)}, noMean, none},
		{[]complex64{complex(most, 1), complex(-most, 1)}, show(complex64(1i), true), show(float32(0.25), true)},
		{[]complex64{complex(most, -most)}, show(complex(most, -most), true), show(float32(-0.125), true)},
	} {
		is(t, "MeanArrow of "+show(e.arrows), show(impl.MeanArrow(e.arrows)), e.mean)
		is(t, "TurnOfMean of "+show(e.arrows), show(impl.TurnOfMean(e.arrows)), e.turn)
		checkMean(t, e.arrows)
	}
}

func TestMeansHaveLimits(t *testing.T) {
	for size := range 67 {
		arrows := copies[complex64](1i, size)
		mean, ok := impl.MeanArrow(arrows)
		turn, turnOK := impl.TurnOfMean(arrows)
		want, wantTurn := noMean, noNumber
		if size >= 1 && size <= 64 {
			want, wantTurn = show(complex64(1i), true), show(float32(0.25), true)
		}
		is(t, "MeanArrow of "+show(int64(size)), show(mean, ok), want)
		is(t, "TurnOfMean of "+show(int64(size)), show(turn, turnOK), wantTurn)
	}
	is(t, "MeanArrow of 1000", show(impl.MeanArrow(make([]complex64, 1000))), noMean)
	for _, n := range []int{1, 2, 7, 64} {
		for at := range n {
			for _, x := range notFinite() {
				for _, wrong := range []complex64{complex(x, 1), complex(1, x), complex(x, x)} {
					arrows := copies[complex64](1, n)
					arrows[at] = wrong
					is(t, "MeanArrow of "+show(arrows), show(impl.MeanArrow(arrows)), noMean)
					is(t, "TurnOfMean of "+show(arrows), show(impl.TurnOfMean(arrows)), noNumber)
				}
			}
		}
	}
}

func checkAgree(t *testing.T, turns []float32, by float32) bool {
	t.Helper()
	next := agreeReference(turns, by)
	is(t, "AgreeOnce of "+show(turns, by), show(impl.AgreeOnce(turns, by)), show(next, next != nil))
	return next != nil
}

func TestTurnsGoTowardsTheirMean(t *testing.T) {
	d := dice(383)
	wrong := 0
	for n := int64(1); n <= impl.MaxLine; n++ {
		for range 10 {
			for _, by := range []float32{0, num(0x80000000), 0.125, -0.25, 1, num(1), d.finite(), math.MaxFloat32, -math.MaxFloat32} {
				if !checkAgree(t, d.turns(n), by) {
					wrong++
				}
				checkAgree(t, d.nearTurns(n), by)
			}
			if !checkAgree(t, append(d.nearTurns(n)[1:], math.MaxFloat32), d.near1(1)[0]*0x1p124) {
				wrong++
			}
		}
	}
	if wrong < 100 {
		t.Errorf("only %d times a turn is not finite", wrong)
	}
}

func TestAgreeOnceAtTheEdges(t *testing.T) {
	minus, most := num(0x80000000), float32(math.MaxFloat32)
	for _, e := range []struct {
		turns []float32
		by    float32
		want  string
	}{
		{[]float32{0.5}, 0, show([]float32{0.5}, true)},
		{[]float32{0.3}, 7, show([]float32{0.3}, true)}, // one agrees with itself
		{[]float32{minus}, 1, show([]float32{0}, true)},
		{copies[float32](0.125, 64), 3, show(copies[float32](0.125, 64), true)},
		// Turns that are apart by a quarter go half of by nearer, or away from one another.
		{[]float32{0, 0.25}, 0.25, show([]float32{0.125, 0.125}, true)},
		{[]float32{0, 0.25}, 1, show([]float32{0.5, -0.25}, true)},
		{[]float32{0, 0.25}, -0.25, show([]float32{-0.125, 0.375}, true)},
		{[]float32{0, 0.25}, 0, show([]float32{0, 0.25}, true)},
		{[]float32{1, 5.25}, 0.25, show([]float32{1.125, 5.125}, true)},
		// Those that are opposite to one another have no mean and stay.
		{[]float32{0, 0.5}, 100, show([]float32{0, 0.5}, true)},
		{[]float32{0, 0.25, 0.5, 0.75}, 100, show([]float32{0, 0.25, 0.5, 0.75}, true)},
		// So many turns that no part of one is left.
		{[]float32{0x1p60, 0x1p60}, 1, show([]float32{0x1p60, 0x1p60}, true)},
		{[]float32{most, 0.25}, most, "[] false"}, // most and half of it
		{[]float32{most, 0.25}, -most, show([]float32{most / 2, most / 2}, true)},
		{[]float32{0, 0.25}, most, show([]float32{most / 2, -most / 2}, true)},
		{[]float32{-most, 0.25, 0.25, 0.25}, -most, "[] false"},
	} {
		is(t, "AgreeOnce of "+show(e.turns, e.by), show(impl.AgreeOnce(e.turns, e.by)), e.want)
		checkAgree(t, e.turns, e.by)
	}
}

func TestTurnsHaveLimits(t *testing.T) {
	for size := range 67 {
		turns := copies[float32](0.25, size)
		once, rounds := "[] false", noRounds
		if size >= 1 && size <= 64 {
			once, rounds = show(turns, true), show(turns, int64(1), true)
		}
		is(t, "AgreeOnce of "+show(int64(size)), show(impl.AgreeOnce(turns, 1)), once)
		is(t, "AgreeRounds of "+show(int64(size)), show(impl.AgreeRounds(turns, 1, 0, 3)), rounds)
	}
	is(t, "AgreeOnce of 1000", show(impl.AgreeOnce(make([]float32, 1000), 1)), "[] false")
	for _, x := range notFinite() {
		is(t, "AgreeOnce by "+show(x), show(impl.AgreeOnce([]float32{0, 0.25}, x)), "[] false")
		is(t, "AgreeOnce of one by "+show(x), show(impl.AgreeOnce([]float32{0}, x)), "[] false")
		is(t, "AgreeRounds by "+show(x), show(impl.AgreeRounds([]float32{0, 0.25}, x, 1, 5)), noRounds)
		is(t, "AgreeRounds near "+show(x), show(impl.AgreeRounds([]float32{0, 0.25}, 0.125, x, 5)), noRounds)
		for _, n := range []int{1, 2, 9, 64} {
			for at := range n {
				turns := copies[float32](0.25, n)
				turns[at] = x
				is(t, "AgreeOnce of "+show(turns), show(impl.AgreeOnce(turns, 1)), "[] false")
				is(t, "AgreeRounds of "+show(turns), show(impl.AgreeRounds(turns, 1, 1, 5)), noRounds)
			}
		}
	}
}

func checkAgreed(t *testing.T, turns []float32, by, near float32, most int64) {
	t.Helper()
	is(t, "AgreeRounds of "+show(turns, by, near, most), show(impl.AgreeRounds(turns, by, near, most)), showRounds(turns, by, near, most))
}

func TestAgreeRoundsEndsNearEnough(t *testing.T) {
	d := dice(384)
	ends, lasts := 0, 0
	for range 1500 {
		n := d.from(1, 20)
		turns := d.nearTurns(n)
		if d.from(0, 3) == 0 {
			turns = d.turns(n)
		}
		by := []float32{0.125, 0.0625, 0.3, 1, -0.125, d.finite()}[d.from(0, 5)]
		near := []float32{0, 1e-3, 1e-6, num(1), 0.01}[d.from(0, 4)]
		most := []int64{1, 2, 30, 255, 256}[d.from(0, 4)]
		checkAgreed(t, turns, by, near, most)
		if _, rounds, ok := impl.AgreeRounds(turns, by, near, most); !ok {
			lasts++
		} else if rounds > 5 {
			ends++
		}
	}
	if ends < 150 || lasts < 150 {
		t.Errorf("%d times turns agree behind some rounds, and %d times never", ends, lasts)
	}
}

// TestAgreeRoundsIsAgreeOnceAgain has as many rounds as it says, and a near that
// is just as much as the last difference.
func TestAgreeRoundsIsAgreeOnceAgain(t *testing.T) {
	d := dice(385)
	for range 100 {
		turns := append(d.nearTurns(d.from(1, 9)), 0.125)
		list, nearest := turns, float32(1)
		for round := int64(1); round <= 12; round++ {
			next, _ := impl.AgreeOnce(list, 0.125)
			near := farReference(next, list)
			list = next
			if near == 0 || near >= nearest {
				break
			}
			nearest = near
			what := "AgreeRounds of " + show(turns, near, round)
			below := math.Nextafter32(near, 0)
			is(t, what, show(impl.AgreeRounds(turns, 0.125, near, 256)), show(next, round, true))
			is(t, what+" at most", show(impl.AgreeRounds(turns, 0.125, near, round)), show(next, round, true))
			if round == 1 {
				continue
			}
			is(t, what+" one less", show(impl.AgreeRounds(turns, 0.125, near, round-1)), noRounds)
			is(t, what+" nearer", show(impl.AgreeRounds(turns, 0.125, below, round)), noRounds)
		}
	}
}

// TestTurnsAgree has turns that are near to one another come to one turn.
func TestTurnsAgree(t *testing.T) {
	d := dice(386)
	for range 200 {
		turns := d.nearTurns(d.from(1, 64))
		end, _, ok := impl.AgreeRounds(turns, 0.125, 1e-6, 256)
		for _, turn := range end {
			is(t, "AgreeRounds of "+show(turns), show(ok, math.Abs(float64(turn)-float64(end[0])) < 1e-4), "true true")
		}
	}
}

func TestAgreeRoundsAtTheEdges(t *testing.T) {
	minus, most := num(0x80000000), float32(math.MaxFloat32)
	for _, e := range []struct {
		turns    []float32
		by, near float32
		most     int64
		want     string
	}{
		// Turns that agree at once: the first time they stay.
		{[]float32{0.25, 0.25}, 0.125, 0, 1, show([]float32{0.25, 0.25}, int64(1), true)},
		{[]float32{0.25}, 5, minus, 256, show([]float32{0.25}, int64(1), true)},
		{[]float32{0, 0.25}, 0, 0, 1, show([]float32{0, 0.25}, int64(1), true)},
		{[]float32{0, 0.25}, 0.25, 1, 9, show([]float32{0.125, 0.125}, int64(1), true)},
		{[]float32{0, 0.25}, 0.25, 0.125, 1, show([]float32{0.125, 0.125}, int64(1), true)},
		{[]float32{0, 0.25}, 0.25, num(0x3dffffff), 1, noRounds}, // near less than 0.125
		{[]float32{0, 0.25}, 0.25, 0, 1, noRounds},
		{[]float32{0, 0.25}, 0.25, 0, 2, show([]float32{0.125, 0.125}, int64(2), true)},
		// The last one goes away by a quarter, and the first one, too.
		{[]float32{0, 0.25}, -0.5, 0.25, 1, show([]float32{-0.25, 0.5}, int64(1), true)},
		{[]float32{0, 0.25}, -0.5, 0.2, 1, noRounds},
		// Turns that change places again and again never come near.
		{[]float32{0, 0.25}, 0.5, 0.125, 256, noRounds},
		{[]float32{0, 0.25}, 0.5, 0.25, 256, show([]float32{0.25, 0}, int64(1), true)},
		// A turn that is not finite, in the first round and in a later one.
		{[]float32{most, 0.25}, most, most, 256, noRounds},
		{[]float32{0, 0.25}, 0.25, most, 256, show([]float32{0.125, 0.125}, int64(1), true)},
		// Turns that go away from one another come to rest where they are opposite.
		{[]float32{0, 0.25}, -0.125, 0, 256, show([]float32{num(0xbdffffff), 0.375}, int64(13), true)},
		{[]float32{0, 0.25}, -0.125, 0, 12, noRounds},
	} {
		is(t, "AgreeRounds of "+show(e.turns, e.by, e.near, e.most), show(impl.AgreeRounds(e.turns, e.by, e.near, e.most)), e.want)
		checkAgreed(t, e.turns, e.by, e.near, e.most)
	}
}

func TestAgreeRoundsHasLimits(t *testing.T) {
	for _, most := range append(farNumbers(), 0, -1, 257, 258, 1<<32+1) {
		is(t, "AgreeRounds most "+show(most), show(impl.AgreeRounds([]float32{0.25, 0.25}, 0.125, 0, most)), noRounds)
	}
	for most := int64(-2); most <= 260; most++ {
		_, _, ok := impl.AgreeRounds([]float32{0.25, 0.25}, 0.125, 0, most)
		is(t, "AgreeRounds most "+show(most), show(ok), show(most >= 1 && most <= 256))
	}
	for _, near := range []float32{-1, num(0x80000001), num(0x80800000), -math.MaxFloat32} {
		is(t, "AgreeRounds near "+show(near), show(impl.AgreeRounds([]float32{0.25, 0.25}, 0.125, near, 5)), noRounds)
	}
	// Turns that need 256 rounds, and those that would need one more.
	needs := 0
	d := dice(387)
	for range 40 {
		turns := d.nearTurns(3)
		list := turns
		for range 255 {
			list = agreeReference(list, 0.01)
		}
		end := agreeReference(list, 0.01)
		near := farReference(end, list)
		checkAgreed(t, turns, 0.01, near, 256)
		checkAgreed(t, turns, 0.01, math.Nextafter32(near, 0), 256)
		if _, rounds, _ := impl.AgreeRounds(turns, 0.01, near, 256); rounds == 256 {
			needs++
			is(t, "AgreeRounds of "+show(turns), show(impl.AgreeRounds(turns, 0.01, near, 255)), noRounds)
		}
	}
	if needs == 0 {
		t.Error("no turns need 256 rounds")
	}
}
