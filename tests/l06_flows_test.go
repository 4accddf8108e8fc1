package tests

import (
	"math"
	"slices"
	"testing"

	"loop.example/g01365/impl"
)

func checkFlows(t *testing.T, slopes, bases []float32, total float32) {
	t.Helper()
	what := show(slopes, bases, total)
	is(t, "EvenFlow of "+what, show(impl.EvenFlow(slopes, bases, total)), showFlows(slopes, bases, total))
	is(t, "TolledFlow of "+what, show(impl.TolledFlow(slopes, bases, total)), showTolled(slopes, bases, total))
}

func TestEvenFlowAddsRoadsInOrder(t *testing.T) {
	d := dice(361)
	for n := int64(1); n <= impl.MaxRoads; n++ {
		for range 1000 {
			checkFlows(t, d.near1(n), d.bases(n), d.near1(1)[0]*float32(d.from(0, 8)))
			checkFlows(t, d.near1(n), d.near1(n), d.anySizes(1)[0])
		}
	}
}

// TestEvenFlowOfNumbersOfAnySize has sums and quotients that are not finite.
func TestEvenFlowOfNumbersOfAnySize(t *testing.T) {
	d := dice(362)
	fine, wrong := 0, 0
	for range 20000 {
		n := d.from(1, 8)
		slopes, bases, total := d.anySizes(n), d.anySizes(n), d.anySizes(1)[0]
		if d.from(0, 1) == 0 {
			bases = d.bases(n)
		}
		checkFlows(t, slopes, bases, total)
		if _, _, ok := impl.EvenFlow(slopes, bases, total); ok {
			fine++
		} else {
			wrong++
		}
	}
	if fine < 2000 || wrong < 500 {
		t.Errorf("%d flows are finite, and %d are not", fine, wrong)
	}
}

// exactLevel halves an interval until flows make the total, with 64-bit numbers.
func exactLevel(slopes, bases []float32, total float32) float64 {
	low, high := float64(slices.Min(bases)), float64(slices.Max(bases))+float64(total)*float64(slices.Max(slopes))
	for range 200 {
		middle, flow := (low+high)/2, 0.0
		for road := range slopes {
			flow += max(0, (middle-float64(bases[road]))/float64(slopes[road]))
		}
		if flow < float64(total) {
			low = middle
		} else {
			high = middle
		}
	}
	return high
}

// TestFlowsCostAsMuchOnAllRoadsThatAreUsed has flows that make the total, roads
// that are used and cost as much as the level, and others that cost no less.
func TestFlowsCostAsMuchOnAllRoadsThatAreUsed(t *testing.T) {
	d := dice(363)
	unused := 0
	for range 5000 {
		n := d.from(1, 8)
		slopes, bases, total := d.near1(n), d.bases(n), d.near1(1)[0]
		flows, level, ok := impl.EvenFlow(slopes, bases, total)
		what := "EvenFlow of " + show(slopes, bases, total)
		is(t, what, show(ok, math.Abs(float64(level)-exactLevel(slopes, bases, total)) <= 1e-5*float64(level)), "true true")
		all := 0.0
		for road, flow := range flows {
			all += float64(flow)
			each := float64(flow)*float64(slopes[road]) + float64(bases[road])
			is(t, what+" costs no less", show(each >= float64(level)*(1-1e-5)), "true")
			if flow > 0 {
				is(t, what+" costs no more", show(each <= float64(level)*(1+1e-5)), "true")
			} else {
				unused++
			}
		}
		is(t, what+" in sum", show(math.Abs(all-float64(total)) <= 1e-4*float64(total)), "true")
	}
	if unused < 1000 {
		t.Errorf("only %d roads are not used", unused)
	}
}

func TestEvenFlowAtTheEdges(t *testing.T) {
	minus, tiny := num(0x80000000), num(1)
	for _, e := range []struct {
		slopes, bases []float32
		total         float32
		flows         []float32
		level         float32
	}{
		{[]float32{1, 1}, []float32{0, 1}, 3, []float32{2, 1}, 2},
		{[]float32{1, 1}, []float32{0, 4}, 2, []float32{2, 0}, 2},
		{[]float32{1, 1}, []float32{4, 0}, 2, []float32{0, 2}, 2}, // the second road is cheaper
		{[]float32{0.5}, []float32{3}, 4, []float32{4}, 5},        // one road
		// The next road is used if its base is less than the level, not if it is equal.
		{[]float32{1, 1}, []float32{0, 2}, 2, []float32{2, 0}, 2},
		{[]float32{1, tiny}, []float32{0, 1}, 1, []float32{1, 0}, 1},
		{[]float32{2, 1, 1}, []float32{0, 1, 2}, 0.5, []float32{0.5, 0, 0}, 1},
		{[]float32{1, 1, 1}, []float32{0, 1, 2}, 3, []float32{2, 1, 0}, 2},
		{[]float32{1, 1, 1}, []float32{2, 1, 0}, 6, []float32{1, 2, 3}, 3},
		{[]float32{1, 1, 1, 1}, []float32{2, 1, 2, 0}, 7, []float32{1, 2, 1, 3}, 3},
		{[]float32{2, 1}, []float32{1, 1}, 6, []float32{2, 4}, 5}, // equal bases
		{copies[float32](1, 8), copies[float32](0, 8), 8, copies[float32](1, 8), 1},
		// A total of 0 is on roads that cost their base.
		{[]float32{1, 2}, []float32{3, 2}, 0, []float32{0, 0}, 2},
		{[]float32{1, 2}, []float32{0, 0}, 0, []float32{0, 0}, 0},
		{[]float32{1, 2}, []float32{0, 2}, minus, []float32{0, 0}, 0},
		{[]float32{4, 2}, []float32{minus, 0}, minus, []float32{0, 0}, 0},
		{[]float32{1, 1}, []float32{minus, 0}, 2, []float32{1, 1}, 1}, // both bases are equal
		{[]float32{1, 1}, []float32{0, minus}, 2, []float32{1, 1}, 1},
		// What is too small is lost: 1 and the quotient of tiny bases.
		{[]float32{1, 1}, []float32{0, tiny}, 2, []float32{1, 1}, 1},
		{[]float32{1}, []float32{1e30}, 1, []float32{0}, 1e30},
		// The quotient of 1 and the slope is infinite, the level 0, and a base more.
		{[]float32{tiny}, []float32{0}, 5, []float32{0}, 0},
		{[]float32{tiny}, []float32{num(100000)}, 0, []float32{0}, 0},
		{[]float32{1, num(0x00100000)}, []float32{0, num(0x00080000)}, 5, []float32{0, 0}, 0},
		// A base that is more than the level by so little that the quotient is -0.
		{[]float32{1, 4, num(0x00100000)}, []float32{0, tiny, num(2)}, 5, []float32{0, minus, 0}, 0},
		{[]float32{0x1p126}, []float32{0}, 1, []float32{1}, 0x1p126},
		{[]float32{num(0x00800000)}, []float32{0}, num(0x7e800000), []float32{num(0x7e800000)}, 1},
	} {
		what := "EvenFlow of " + show(e.slopes, e.bases, e.total)
		is(t, what, show(impl.EvenFlow(e.slopes, e.bases, e.total)), show(e.flows, e.level, true))
		checkFlows(t, e.slopes, e.bases, e.total)
	}
}

func TestEvenFlowIsFinite(t *testing.T) {
	most := float32(math.MaxFloat32)
	for _, e := range []struct {
		slopes, bases []float32
		total         float32
	}{
		{[]float32{2}, []float32{0}, most},               // the level
		{[]float32{1}, []float32{most}, most},            // the total and a base
		{[]float32{most}, []float32{0}, 1},               // 1 / 2^-128
		{[]float32{0.5}, []float32{most}, 0},             // the quotient of base and slope
		{[]float32{1, 0.25}, []float32{0, 1e38}, 2e38},   // the one of the second road
		{[]float32{num(1), num(1)}, []float32{1, 1}, 1},  // infinite sums
		{[]float32{1, 1}, []float32{most, most}, 1e38},   // the sum of quotients
		{[]float32{most, most}, []float32{0, 0}, most},   // the level again
		{copies[float32](1, 8), copies(most/2, 8), most}, // and again
		{[]float32{1}, []float32{0}, float32(math.Inf(1))},
	} {
		what := "EvenFlow of " + show(e.slopes, e.bases, e.total)
		is(t, what, show(impl.EvenFlow(e.slopes, e.bases, e.total)), noFlows)
		checkFlows(t, e.slopes, e.bases, e.total)
	}
	// A level that is infinite for one road alone is none in the end.
	slopes, bases := []float32{most, 1}, []float32{0, 1}
	flows, level, ok := impl.EvenFlow(slopes, bases, 1e10)
	is(t, "EvenFlow of a steep road and a flat one", show(flows, level, ok), show([]float32{1e10 / most, 1e10}, float32(1e10), true))
	checkFlows(t, slopes, bases, 1e10)
	// A flow that is infinite, though its level is not.
	d := dice(366)
	wide := 0
	for range 1000 {
		slopes := []float32{d.near1(1)[0] / 16, 1}
		bases := []float32{0, most}
		checkFlows(t, slopes, bases, most)
		flows, level, _ := flowsReference(slopes, bases, most)
		if finite32(level) && !finite32(flows...) {
			wide++
			is(t, "EvenFlow of "+show(slopes, bases), show(impl.EvenFlow(slopes, bases, most)), noFlows)
		}
	}
	if wide < 50 {
		t.Errorf("only %d flows are wider than their levels", wide)
	}
}

// testRoads has numbers that are no slopes or bases, and numbers of roads that
// are too many, too few, or not as many of both. It tells whether calls succeed.
func testRoads(t *testing.T, name string, call func(slopes, bases []float32) (string, bool), failed string) {
	t.Helper()
	fails := func(slopes, bases []float32) {
		t.Helper()
		got, _ := call(slopes, bases)
		is(t, name+" of "+show(slopes, bases), got, failed)
	}
	for slopes := range 12 {
		for bases := range 12 {
			got, ok := call(copies[float32](1, slopes), copies[float32](1, bases))
			is(t, name+" of "+show(int64(slopes), int64(bases)), show(ok), show(slopes == bases && slopes >= 1 && slopes <= 8))
			if !ok {
				is(t, name+" of "+show(int64(slopes), int64(bases)), got, failed)
			}
		}
	}
	for n := 1; n <= 8; n++ {
		for at := range n {
			for _, x := range append(wrongAmounts(), 0, num(0x80000000)) {
				slopes := copies[float32](1, n)
				slopes[at] = x
				fails(slopes, copies[float32](1, n))
			}
			for _, x := range wrongAmounts() {
				bases := copies[float32](1, n)
				bases[at] = x
				fails(copies[float32](1, n), bases)
			}
		}
	}
	fails(copies[float32](1, 1000), copies[float32](1, 1000))
}

func TestEvenFlowNeedsRoadsAndATotal(t *testing.T) {
	testRoads(t, "EvenFlow", func(slopes, bases []float32) (string, bool) {
		flows, level, ok := impl.EvenFlow(slopes, bases, 1)
		return show(flows, level, ok), ok
	}, noFlows)
	testRoads(t, "TolledFlow", func(slopes, bases []float32) (string, bool) {
		flows, ok := impl.TolledFlow(slopes, bases, 1)
		return show(flows, ok), ok
	}, "[] false")
	for _, total := range wrongAmounts() {
		is(t, "EvenFlow of "+show(total), show(impl.EvenFlow([]float32{1, 2}, []float32{0, 1}, total)), noFlows)
		is(t, "TolledFlow of "+show(total), show(impl.TolledFlow([]float32{1, 2}, []float32{0, 1}, total)), "[] false")
	}
	// Bases and totals are any amounts, and slopes any greater than 0.
	for _, x := range amounts() {
		for _, y := range amounts() {
			checkFlows(t, []float32{1, 0.5, 3}, []float32{x, 1, y}, 2)
			checkFlows(t, []float32{1, 0.5, 3}, []float32{0, x, 1}, y)
			if x > 0 {
				checkFlows(t, []float32{1, x, 3}, []float32{0, 1, 1}, y)
				checkFlows(t, []float32{x, 0.5}, []float32{y, 1}, 2)
			}
		}
	}
}

func TestFlowCostAddsWhatRoadsCost(t *testing.T) {
	d := dice(364)
	check := func(slopes, bases, flows []float32) {
		t.Helper()
		is(t, "FlowCost of "+show(slopes, bases, flows), show(impl.FlowCost(slopes, bases, flows)), showNumber(flowCostReference(slopes, bases, flows)))
	}
	for n := int64(1); n <= impl.MaxRoads; n++ {
		for range 2000 {
			check(d.near1(n), d.bases(n), d.bases(n))
			check(d.anySizes(n), d.anySizes(n), d.anySizes(n))
		}
	}
	for _, x := range amounts() {
		for _, y := range amounts() {
			check([]float32{1, 2}, []float32{x, 1}, []float32{y, 3})
			check([]float32{2, 1}, []float32{0.1, 0}, []float32{x, y})
			if x > 0 {
				check([]float32{x, 2}, []float32{1, 1}, []float32{y, 0})
			}
		}
	}
}

func TestFlowCostAtTheEdges(t *testing.T) {
	most, infinite := float32(math.MaxFloat32), noNumber
	for _, e := range []struct {
		slopes, bases, flows []float32
		want                 string
	}{
		{[]float32{1, 1}, []float32{0, 1}, []float32{2, 1}, show(float32(6), true)},
		{[]float32{1, num(1)}, []float32{0, 1}, []float32{1, 0}, show(float32(1), true)}, // of the example
		{[]float32{3}, []float32{5}, []float32{2}, show(float32(22), true)},
		{[]float32{3, 4}, []float32{5, 6}, []float32{0, num(0x80000000)}, show(float32(0), true)},
		{[]float32{1, 1}, []float32{0, 0}, []float32{0x1p64, 1}, infinite},       // 2^128
		{[]float32{0x1p127}, []float32{0}, []float32{2}, infinite},               // the cost of a unit
		{[]float32{0x1p127}, []float32{0}, []float32{0}, show(float32(0), true)}, // and nobody there
		{[]float32{1}, []float32{most}, []float32{1}, show(most, true)},
		{[]float32{1}, []float32{most}, []float32{2}, infinite},
		{[]float32{1, 1}, []float32{most, most}, []float32{1, 1}, infinite}, // the sum
		// A product is rounded before a base is added: 4097 4097 = 2^24 + 8193.
		{[]float32{4097}, []float32{1}, []float32{4097}, show(times(4097, 16785408), true)},
		{[]float32{num(0x3f800001)}, []float32{0x1p-46}, []float32{num(0x3f800001)}, show(times(num(0x3f800001), num(0x3f800002)), true)},
	} {
		is(t, "FlowCost of "+show(e.slopes, e.bases, e.flows), show(impl.FlowCost(e.slopes, e.bases, e.flows)), e.want)
		is(t, "its reference", showNumber(flowCostReference(e.slopes, e.bases, e.flows)), e.want)
	}
}

func TestFlowCostNeedsRoadsAndFlows(t *testing.T) {
	testRoads(t, "FlowCost", func(slopes, bases []float32) (string, bool) {
		cost, ok := impl.FlowCost(slopes, bases, copies[float32](1, len(slopes)))
		return show(cost, ok), ok
	}, noNumber)
	for n := 1; n <= 8; n++ {
		ones := copies[float32](1, n)
		for flows := range 12 {
			_, ok := impl.FlowCost(ones, ones, copies[float32](1, flows))
			is(t, "FlowCost of flows "+show(int64(n), int64(flows)), show(ok), show(flows == n))
		}
		for at := range n {
			for _, x := range wrongAmounts() {
				flows := copies[float32](1, n)
				flows[at] = x
				is(t, "FlowCost of "+show(flows), show(impl.FlowCost(ones, ones, flows)), noNumber)
			}
		}
	}
}

// TestTolledFlowsCostLeast compares them with others that have the same sum, and
// with even ones, which cost a third more at most.
func TestTolledFlowsCostLeast(t *testing.T) {
	d := dice(365)
	for range 2000 {
		n := d.from(1, 8)
		slopes, bases, total := d.near1(n), d.bases(n), d.near1(1)[0]
		tolled, _ := impl.TolledFlow(slopes, bases, total)
		even, _, _ := impl.EvenFlow(slopes, bases, total)
		best, _ := impl.FlowCost(slopes, bases, tolled)
		fair, _ := impl.FlowCost(slopes, bases, even)
		what := "TolledFlow of " + show(slopes, bases, total)
		is(t, what+" and even flow", show(best <= fair*(1+1e-4), fair <= best*4/3*(1+1e-4)), "true true")
		for range 10 {
			other := slices.Clone(tolled)
			from, to := d.from(0, n-1), d.from(0, n-1)
			part := other[from] * float32(d.from(0, 16)) / 16
			other[from] -= part
			other[to] += part
			cost, ok := impl.FlowCost(slopes, bases, other)
			is(t, what+" and other flows", show(ok, best <= cost*(1+1e-4)), "true true")
		}
	}
}

func TestTolledFlowAtTheEdges(t *testing.T) {
	most := float32(math.MaxFloat32)
	for _, e := range []struct {
		slopes, bases []float32
		total         float32
		want          string
	}{
		{[]float32{1, 1}, []float32{0, 2}, 2, show([]float32{1.5, 0.5}, true)},
		{[]float32{1, 1}, []float32{0, 1}, 1, show([]float32{0.75, 0.25}, true)},
		{[]float32{1}, []float32{7}, 3, show([]float32{3}, true)},
		{[]float32{1, 3}, []float32{1, 1}, 0, show([]float32{0, 0}, true)},
		{[]float32{most / 2, 1}, []float32{0, 0}, 0, show([]float32{0, 0}, true)},
		{[]float32{most, 1}, []float32{0, 0}, 0, "[] false"}, // twice as much is infinite
		{[]float32{num(0x7f000000), 1}, []float32{0, 0}, 0, "[] false"},
		{[]float32{num(0x7effffff), 1}, []float32{0, 0}, 0, show([]float32{0, 0}, true)},
		{[]float32{num(1)}, []float32{0}, 1, show([]float32{0}, true)},
	} {
		is(t, "TolledFlow of "+show(e.slopes, e.bases, e.total), show(impl.TolledFlow(e.slopes, e.bases, e.total)), e.want)
		checkFlows(t, e.slopes, e.bases, e.total)
	}
}
