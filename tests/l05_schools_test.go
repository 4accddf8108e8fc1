package tests

import (
	"slices"
	"testing"

	"loop.example/g01365/impl"
)

// checkSchools compares who is taken with pairs of pupils and seats.
func checkSchools(t *testing.T, w impl.Wishes, seats []int64) {
	t.Helper()
	want := schoolReference(w, seats)
	is(t, "SchoolMatch of "+show(w, seats), show(impl.SchoolMatch(w, seats)), show(want, true))
	is(t, "SchoolBlock of "+show(w, seats, want), show(impl.SchoolBlock(w, seats, want)), "0 0 false")
	is(t, "whether it is a match", show(isSchoolMatchReference(w, seats, want)), "true")
}

func TestSchoolsTakeAsManyAsTheyHaveSeats(t *testing.T) {
	d := dice(241)
	several, full := 0, 0
	for _, w := range append(someWishes(), smallWishes()...) {
		n := int64(len(w.Left))
		for _, seats := range [][]int64{make([]int64, n), copies[int64](1, int(n)), copies[int64](8, int(n)), d.seats(n, 2), d.seats(n, 3), d.seats(n, 8)} {
			checkSchools(t, w, seats)
			match := schoolReference(w, seats)
			for j, count := range seats {
				if len(pupilsOf(match, int64(j))) > 1 {
					several++
				}
				if count > 0 && int64(len(pupilsOf(match, int64(j)))) == count {
					full++
				}
			}
		}
	}
	for range 4000 {
		w := d.wishes(d.from(3, 8), 1)
		checkSchools(t, w, d.seats(int64(len(w.Left)), 3))
	}
	if several < 500 || full < 500 {
		t.Errorf("only %d schools take several, and %d as many as they have seats", several, full)
	}
}

// TestOneSeatEachIsAMatch compares schools with pairs.
func TestOneSeatEachIsAMatch(t *testing.T) {
	d := dice(242)
	for _, w := range append(someWishes(), smallWishes()...) {
		ones := copies[int64](1, len(w.Right))
		match, _, ok := impl.AskMatch(w)
		is(t, "SchoolMatch of "+show(w, ones), show(impl.SchoolMatch(w, ones)), show(match, ok))
		other := d.match(w)
		is(t, "SchoolBlock of "+show(w, ones, other), show(impl.SchoolBlock(w, ones, other)), show(impl.BlockOf(w, other)))
	}
}

func checkSchoolBlock(t *testing.T, w impl.Wishes, seats, match []int64) bool {
	t.Helper()
	what := "SchoolBlock of " + show(w, seats, match)
	if !isSchoolMatchReference(w, seats, match) {
		is(t, what, show(impl.SchoolBlock(w, seats, match)), "0 0 false")
		return false
	}
	i, j, isBlocked := schoolBlockReference(w, seats, match)
	is(t, what, show(impl.SchoolBlock(w, seats, match)), show(i, j, isBlocked))
	return isBlocked
}

func TestSchoolsAreBlockedByThoseWhoWouldRather(t *testing.T) {
	d := dice(243)
	blocked := 0
	for _, w := range append(someWishes(), smallWishes()...) {
		n := int64(len(w.Left))
		for _, seats := range [][]int64{make([]int64, n), copies[int64](1, int(n)), copies[int64](8, int(n)), d.seats(n, 2), d.seats(n, 8)} {
			for range 3 {
				match := d.schoolMatch(w, seats)
				if checkSchoolBlock(t, w, seats, match) {
					blocked++
				}
				changed := slices.Clone(match)
				changed[d.from(0, n-1)] = d.from(-2, n)
				checkSchoolBlock(t, w, seats, changed)
			}
			checkSchoolBlock(t, w, seats, copies[int64](-1, int(n)))
			checkSchoolBlock(t, w, seats, copies(d.from(0, n-1), int(n)))
			checkSchoolBlock(t, w, seats, numbersTo(n))
			for _, wrong := range wrongMatches(n) {
				checkSchoolBlock(t, w, seats, wrong)
			}
		}
	}
	if blocked < 3000 {
		t.Errorf("only %d matches with seats are blocked", blocked)
	}
}

func TestSchoolsAtTheEdges(t *testing.T) {
	three := impl.Wishes{Left: [][]int64{{0, 1}, {0, 1}, {0}}, Right: [][]int64{{2, 1, 0}, {0}, nil}}
	all := impl.Wishes{Left: copies([]int64{0}, 8), Right: slices.Concat([][]int64{{7, 6, 5, 4, 3, 2, 1, 0}}, make([][]int64, 7))}
	for _, c := range []struct {
		w            impl.Wishes
		seats, match []int64
		want, block  string
	}{
		{twoPairs(), []int64{2, 0}, []int64{-1, -1}, "[0 0] true", "0 0 true"},
		{twoPairs(), []int64{0, 0}, []int64{-1, -1}, "[-1 -1] true", "0 0 false"}, // nobody has a seat
		{twoPairs(), []int64{0, 1}, []int64{-1, 1}, "[1 -1] true", "0 1 true"},
		{twoPairs(), []int64{0, 1}, []int64{1, -1}, "[1 -1] true", "0 0 false"},
		{twoPairs(), []int64{0, 1}, []int64{0, -1}, "[1 -1] true", "0 0 false"}, // more than its seats
		{twoPairs(), []int64{1, 1}, []int64{0, 0}, "[0 1] true", "0 0 false"},
		{twoPairs(), []int64{2, 1}, []int64{0, 0}, "[0 1] true", "1 1 true"},
		{twoPairs(), []int64{8, 8}, []int64{1, 0}, "[0 1] true", "0 0 true"},
		// 0 has two seats, 1 and 2 are dearer to it, and 0 goes to 1.
		{three, []int64{2, 1, 0}, []int64{1, 0, 0}, "[1 0 0] true", "0 0 false"},
		{three, []int64{2, 1, 0}, []int64{0, 0, -1}, "[1 0 0] true", "2 0 true"},
		{three, []int64{2, 1, 0}, []int64{0, -1, 0}, "[1 0 0] true", "1 0 true"},
		{three, []int64{2, 1, 0}, []int64{1, 0, -1}, "[1 0 0] true", "0 0 true"},
		{three, []int64{3, 1, 0}, []int64{1, 0, 0}, "[0 0 0] true", "0 0 true"}, // a seat left
		{three, []int64{1, 1, 0}, []int64{1, -1, 0}, "[1 -1 0] true", "0 0 false"},
		{three, []int64{1, 1, 0}, []int64{1, 0, -1}, "[1 -1 0] true", "2 0 true"},
		{three, []int64{1, 1, 0}, []int64{1, 1, 0}, "[1 -1 0] true", "0 0 false"}, // 1 does not take 1
		{three, []int64{0, 0, 8}, []int64{-1, -1, -1}, "[-1 -1 -1] true", "0 0 false"},
		{three, []int64{2, 0, 0}, []int64{-1, 0, 0}, "[-1 0 0] true", "0 0 false"},
		{all, copies[int64](8, 8), make([]int64, 8), "[0 0 0 0 0 0 0 0] true", "0 0 false"},
		{all, []int64{7, 0, 0, 0, 0, 0, 0, 0}, make([]int64, 8), "[-1 0 0 0 0 0 0 0] true", "0 0 false"},
		{all, []int64{7, 0, 0, 0, 0, 0, 0, 0}, []int64{0, 0, 0, 0, 0, 0, 0, -1}, "[-1 0 0 0 0 0 0 0] true", "7 0 true"},
		{all, []int64{3, 0, 0, 0, 0, 0, 0, 0}, copies[int64](-1, 8), "[-1 -1 -1 -1 -1 0 0 0] true", "0 0 true"},
		{emptyWishes(8), copies[int64](8, 8), copies[int64](-1, 8), "[-1 -1 -1 -1 -1 -1 -1 -1] true", "0 0 false"},
	} {
		is(t, "SchoolMatch of "+show(c.w, c.seats), show(impl.SchoolMatch(c.w, c.seats)), c.want)
		is(t, "SchoolBlock of "+show(c.w, c.seats, c.match), show(impl.SchoolBlock(c.w, c.seats, c.match)), c.block)
		checkSchools(t, c.w, c.seats)
		checkSchoolBlock(t, c.w, c.seats, c.match)
	}
}

func TestSeatsHaveLimits(t *testing.T) {
	for _, w := range []impl.Wishes{emptyWishes(1), twoPairs(), tenStable(), alikeWishes(8)} {
		n := len(w.Left)
		alone := copies[int64](-1, n)
		for _, seats := range wrongSeats(int64(n)) {
			is(t, "SchoolMatch of "+show(w, seats), show(impl.SchoolMatch(w, seats)), "[] false")
			is(t, "SchoolBlock of "+show(w, seats, alone), show(impl.SchoolBlock(w, seats, alone)), "0 0 false")
		}
		for count := int64(-1); count <= 9; count++ {
			_, ok := impl.SchoolMatch(w, copies(count, n))
			is(t, "SchoolMatch with seats "+show(count), show(ok), show(count >= 0 && count <= 8))
		}
	}
	for _, w := range wrongWishes() {
		ones, alone := copies[int64](1, len(w.Right)), copies[int64](-1, len(w.Left))
		is(t, "SchoolMatch of "+show(w), show(impl.SchoolMatch(w, ones)), "[] false")
		is(t, "SchoolBlock of "+show(w), show(impl.SchoolBlock(w, ones, alone)), "0 0 false")
	}
}
