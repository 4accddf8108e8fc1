package tests

import (
	"slices"
	"testing"

	"loop.example/g01365/impl"
)

// town has a crowd, roads with flows, a line and arrows, and what the functions
// of chapter 6 take with them.
type town struct {
	c, other             impl.Crowd
	choices, by          []int64
	slopes, bases, flows []float32
	comes, takes         []int64
	pointed              []int64
	arrows               []complex64
	turns                []float32
}

// townWith makes arguments that fit c, as far as its numbers can be.
func (d *dice) townWith(c impl.Crowd) town {
	fit := c
	if !impl.ValidCrowd(c) {
		fit = d.crowd(min(max(c.Users, 1), 8), min(max(c.Roads, 1), 8), min(max(int64(len(c.Ways)), 1), 8), 1, 9)
	}
	n, size := d.from(1, 8), d.from(1, 64)
	x := town{
		c: c, other: d.crowd(3, 2, 3, 1, 9), choices: d.choices(fit), by: d.integers(fit.Roads, -9, 9),
		slopes: d.near1(n), bases: d.bases(n), flows: d.near1(n), pointed: d.integers(size, 0, 9), turns: d.nearTurns(size),
	}
	x.comes, x.takes = d.line(size, 99, 9)
	for range size {
		x.arrows = append(x.arrows, impl.PhasorOf(float64(d.from(0, 99))/100))
	}
	return x
}

// callsWithTown has all functions of chapter 6, those first that never fail or
// take no crowd.
func callsWithTown(x town) []call {
	var list []call
	put := func(name string, run func() string) { list = append(list, call{name, run}) }
	put("ValidCrowd", func() string { return show(impl.ValidCrowd(x.c)) })
	put("SameCrowd", func() string { return show(impl.SameCrowd(x.c, x.other), impl.SameCrowd(x.c, x.c)) })
	put("EvenFlow", func() string { return show(impl.EvenFlow(x.slopes, x.bases, 7)) })
	put("FlowCost", func() string { return show(impl.FlowCost(x.slopes, x.bases, x.flows)) })
	put("TolledFlow", func() string { return show(impl.TolledFlow(x.slopes, x.bases, 7)) })
	put("LineOf", func() string { return show(impl.LineOf(x.comes, x.takes, 2)) })
	put("WaitOf", func() string { return show(impl.WaitOf(x.comes, x.takes, 2)) })
	put("ShortestFirst", func() string { return show(impl.ShortestFirst(x.takes)) })
	put("ArrowsOf", func() string { return show(impl.ArrowsOf(x.pointed, 10)) })
	put("MeanArrow", func() string { return show(impl.MeanArrow(x.arrows)) })
	put("TurnOfMean", func() string { return show(impl.TurnOfMean(x.arrows)) })
	put("AgreeOnce", func() string { return show(impl.AgreeOnce(x.turns, 0.125)) })
	put("AgreeRounds", func() string { return show(impl.AgreeRounds(x.turns, 0.125, 0.01, 20)) })
	return append(list, callsThatNeedACrowd(x)...)
}

// callsThatNeedACrowd have, but for the crowd, arguments with which most succeed.
func callsThatNeedACrowd(x town) []call {
	var list []call
	put := func(name string, run func() string) { list = append(list, call{name, run}) }
	put("LoadsOf", func() string { return show(impl.LoadsOf(x.c, x.choices)) })
	put("CostsOf", func() string { return show(impl.CostsOf(x.c, x.choices)) })
	put("TotalOf", func() string { return show(impl.TotalOf(x.c, x.choices)) })
	put("CrowdPotential", func() string { return show(impl.CrowdPotential(x.c, x.choices)) })
	put("IsRest", func() string { return show(impl.IsRest(x.c, x.choices)) })
	put("BetterChoice", func() string { return show(impl.BetterChoice(x.c, x.choices)) })
	put("RestOf", func() string { return show(impl.RestOf(x.c, x.choices)) })
	put("LeastTotal", func() string { return show(impl.LeastTotal(x.c)) })
	put("WorstRest", func() string { return show(impl.WorstRest(x.c)) })
	put("PriceOfRest", func() string { return show(impl.PriceOfRest(x.c)) })
	put("TollsOf", func() string { return show(impl.TollsOf(x.c)) })
	put("MoreCosts", func() string { return show(impl.MoreCosts(x.c, x.by)) })
	put("CrowdsShared", func() string { return show(impl.CrowdsShared([]impl.Crowd{x.other, x.c}, 2)) })
	return list
}

// nothingOf tells what functions of chapter 6 return that fail.
func nothingOf(name string) string {
	switch name {
	case "TotalOf", "CrowdPotential":
		return "0 false"
	case "IsRest":
		return "false false"
	case "RestOf", "LeastTotal", "WorstRest":
		return "[] 0 false"
	case "PriceOfRest":
		return "0 0 false"
	case "TollsOf", "MoreCosts":
		return noCrowd
	}
	return "[] false"
}

func TestAllFunctionsNeedValidCrowds(t *testing.T) {
	d := dice(391)
	for _, c := range wrongCrowds() {
		for _, f := range callsThatNeedACrowd(d.townWith(c)) {
			is(t, f.name+" of "+show(c), f.run(), nothingOf(f.name))
		}
	}
}

// somewhatFewCrowds leave out most crowds for which all choices are tried long.
func somewhatFewCrowds() []impl.Crowd {
	return slices.DeleteFunc(someCrowds(), func(c impl.Crowd) bool {
		count := numberOfChoices(c)
		return count > 1000 && count <= 4096
	})
}

func TestEqualTownsHaveEqualResults(t *testing.T) {
	var calls []call
	d := dice(392)
	for _, c := range append(somewhatFewCrowds(), wrongCrowds()...) {
		calls = append(calls, callsWithTown(d.townWith(c))...)
	}
	testEqualResults(t, calls, 26)
}

// guardedTown has a town in guarded memory, and tells whether all of it has
// stayed as it was.
func guardedTown(x town) (town, func() bool) {
	checks := []func() bool{guardAll(&x.c.Ways, &x.c.Costs, &x.other.Ways, &x.other.Costs, &x.choices, &x.by, &x.comes, &x.takes, &x.pointed)}
	for _, list := range []*[]float32{&x.slopes, &x.bases, &x.flows, &x.turns} {
		part, isSame := guarded(*list, 0.125)
		*list = part
		checks = append(checks, isSame)
	}
	part, isSame := guarded(x.arrows, 0.125)
	x.arrows = part
	checks = append(checks, isSame)
	return x, func() bool {
		return !slices.ContainsFunc(checks, func(isSame func() bool) bool { return !isSame() })
	}
}

func TestTownsStayAsTheyAre(t *testing.T) {
	d := dice(393)
	for _, c := range append(somewhatFewCrowds(), wrongCrowds()...) {
		x, isSame := guardedTown(d.townWith(c))
		for _, f := range callsWithTown(x) {
			f.run()
			if !isSame() {
				t.Fatalf("%s has changed an argument", f.name)
			}
		}
	}
	for range 50 {
		list, isSame := guarded([]impl.Crowd{d.crowd(3, 3, 3, -9, 9), d.crowd(8, 2, 8, -9, 9), twoRoads()}, equalRoads(1, 1, 1))
		impl.CrowdsShared(list, 2)
		if !isSame() {
			t.Fatal("CrowdsShared has changed its list")
		}
	}
}

func listsOfTown(x town) []lists {
	var all []lists
	put := func(name string, run func() [][]int64) { all = append(all, lists{name, run}) }
	one := func(name string, run func() ([]int64, bool)) {
		put(name, func() [][]int64 { list, _ := run(); return [][]int64{list} })
	}
	many := func(name string, run func() ([]int64, int64, bool)) {
		put(name, func() [][]int64 { list, _, _ := run(); return [][]int64{list} })
	}
	crowd := func(name string, run func() (impl.Crowd, bool)) {
		put(name, func() [][]int64 { c, _ := run(); return [][]int64{c.Ways, c.Costs} })
	}
	one("LoadsOf", func() ([]int64, bool) { return impl.LoadsOf(x.c, x.choices) })
	one("CostsOf", func() ([]int64, bool) { return impl.CostsOf(x.c, x.choices) })
	one("BetterChoice", func() ([]int64, bool) { return impl.BetterChoice(x.c, x.choices) })
	many("RestOf", func() ([]int64, int64, bool) { return impl.RestOf(x.c, x.choices) })
	many("LeastTotal", func() ([]int64, int64, bool) { return impl.LeastTotal(x.c) })
	many("WorstRest", func() ([]int64, int64, bool) { return impl.WorstRest(x.c) })
	crowd("TollsOf", func() (impl.Crowd, bool) { return impl.TollsOf(x.c) })
	crowd("MoreCosts", func() (impl.Crowd, bool) { return impl.MoreCosts(x.c, x.by) })
	one("CrowdsShared", func() ([]int64, bool) { return impl.CrowdsShared([]impl.Crowd{x.c, x.c}, 2) })
	one("LineOf", func() ([]int64, bool) { return impl.LineOf(x.comes, x.takes, 2) })
	many("ShortestFirst", func() ([]int64, int64, bool) { return impl.ShortestFirst(x.takes) })
	return all
}

// testNewArrows spoils all memory of arrows.
func testNewArrows(t *testing.T, x town, isSame func() bool) {
	t.Helper()
	first, _ := impl.ArrowsOf(x.pointed, 10)
	again, _ := impl.ArrowsOf(x.pointed, 10)
	want := show(arrowsReference(x.pointed, 10))
	for at := range again[:cap(again)] {
		again[:cap(again)][at] = -77
	}
	once, _ := impl.ArrowsOf(x.pointed, 10)
	is(t, "ArrowsOf, all results", show(first, once, isSame()), want+" "+want+" true")
}

func TestResultsOfTownsAreNewMemory(t *testing.T) {
	d := dice(394)
	for _, c := range somewhatFewCrowds() {
		x, isSame := guardedTown(d.townWith(c))
		// The same turns again and again, and steps that come to rest at once.
		rest, _, _ := impl.RestOf(x.c, x.choices)
		for _, f := range append(listsOfTown(x), lists{"RestOf choices at rest", func() [][]int64 { again, _, _ := impl.RestOf(x.c, rest); return [][]int64{again} }}) {
			testNewMemory(t, f, isSame)
		}
		is(t, "choices at rest", show(impl.IsRest(x.c, rest)), "true true")
		testNewPlaces(t, "EvenFlow", func() []float32 { flows, _, _ := impl.EvenFlow(x.slopes, x.bases, 7); return flows }, isSame)
		testNewPlaces(t, "TolledFlow", func() []float32 { flows, _ := impl.TolledFlow(x.slopes, x.bases, 7); return flows }, isSame)
		testNewPlaces(t, "AgreeOnce", func() []float32 { next, _ := impl.AgreeOnce(x.turns, 0); return next }, isSame)
		testNewPlaces(t, "AgreeRounds", func() []float32 { end, _, _ := impl.AgreeRounds(x.turns, 0.125, 0.01, 20); return end }, isSame)
		testNewPlaces(t, "AgreeRounds of those that stay", func() []float32 { end, _, _ := impl.AgreeRounds(x.turns, 0, 0, 1); return end }, isSame)
		testNewArrows(t, x, isSame)
	}
}

func TestExamplesOfChapterSix(t *testing.T) {
	for _, choices := range [][]int64{{0, 0}, {1, 1}, {0, 1}, {1, 0}} {
		rest, _, _ := impl.RestOf(twoRoads(), choices)
		is(t, "one road each", show(impl.LoadsOf(twoRoads(), rest)), "[1 1] true")
		is(t, "what both pay", show(impl.TotalOf(twoRoads(), rest)), "2 true")
	}
	slopes, bases := []float32{1, 0x1p-20}, []float32{0, 1}
	flows, level, _ := impl.EvenFlow(slopes, bases, 1)
	is(t, "the flow 1 beside a road that nearly always costs 1", show(flows, level), show([]float32{1, 0}, float32(1)))
	is(t, "what it costs", show(impl.FlowCost(slopes, bases, flows)), show(float32(1), true))
	is(t, "who waits least", show(impl.ShortestFirst([]int64{3, 1, 2})), "[1 2 0] 4 true")
}

func TestLimitsOfChapterSix(t *testing.T) {
	got := []int64{impl.MaxUsers, impl.MaxRoads, impl.MaxToll, impl.MaxLine}
	is(t, "limits", show(got), "[8 8 100000 64]")
}
