package tests

import (
	"math"
	"strings"
	"sync"
	"testing"

	"loop.example/g01365/impl"
)

// call is a function with arguments; it tells its results.
type call struct {
	name string
	run  func() string
}

func callsWithNumbers() []call {
	var list []call
	put := func(name string, run func() string) { list = append(list, call{name, run}) }
	for _, x := range specials() {
		put("IsFinite", func() string { return show(impl.IsFinite(x)) })
		put("BitsOf", func() string { return show(impl.BitsOf(x)) })
		put("NarrowNumber", func() string { return show(impl.NarrowNumber(float64(x) * (1 + 0x1p-24))) })
		put("IsSubnormal", func() string { return show(impl.IsSubnormal(x)) })
		put("FlushNumber", func() string { return show(impl.FlushNumber(x)) })
		put("PhasorOf", func() string { return show(impl.PhasorOf(float64(x) * 1.1)) })
		put("SineTurns", func() string { return show(impl.SineTurns(x)) })
		put("TenthsOf", func() string { return show(impl.TenthsOf(x)) })
		put("RootNumber", func() string { return show(impl.RootNumber(x)) })
		put("ExpNumber", func() string { return show(impl.ExpNumber(x)) })
		put("LogNumber", func() string { return show(impl.LogNumber(x)) })
		for _, y := range specials() {
			z := complex(x, y)
			put("SameNumber", func() string { return show(impl.SameNumber(x, y)) })
			put("AngleTurns", func() string { return show(impl.AngleTurns(x, y)) })
			put("AngleOf", func() string { return show(impl.AngleOf(z)) })
			put("IsFiniteComplex", func() string { return show(impl.IsFiniteComplex(z)) })
			put("NarrowComplex", func() string { return show(impl.NarrowComplex(complex128(z) * 1.1)) })
			put("ConjugateOf", func() string { return show(impl.ConjugateOf(z)) })
			put("PowerOf", func() string { return show(impl.PowerOf(z)) })
			put("LongOf", func() string { return show(impl.LongOf(z)) })
			put("SameComplex", func() string { return show(impl.SameComplex(z, complex(y, x))) })
			put("ScaleComplex", func() string { return show(impl.ScaleComplex(z, y)) })
			for _, u := range []float32{0, 1, -3, num(1), num(0x7f7fffff), num(0xff800000), num(0x7fc00000)} {
				put("MulComplex", func() string { return show(impl.MulComplex(z, complex(u, x))) })
				put("QuotientOf", func() string { return show(impl.QuotientOf(z, complex(y, u))) })
			}
		}
	}
	for _, n := range []int64{0, 1, -1, 42, 0x3f800000, 0x7f800001, 1<<32 - 1, 1 << 32, impl.MaxValue, -impl.MaxValue, impl.MaxValue + 1, math.MaxInt64, math.MinInt64} {
		put("FromBits", func() string { return show(impl.FromBits(n)) })
		put("Decimal", func() string { return show(impl.Decimal(n)) })
		put("CheckOf", func() string { return show(impl.CheckOf(n, "text")) })
	}
	return list
}

// listSizes are the lengths of lists in the calls below.
var listSizes = []int{0, 1, 2, 63, 64, 65, 255, 256, 257, 1000}

func callsWithLists() []call {
	var list []call
	put := func(name string, run func() string) { list = append(list, call{name, run}) }
	d := dice(12)
	for _, n := range listSizes {
		a, b := make([]float32, n), make([]float32, n)
		x, y := make([]complex64, n), make([]complex64, n)
		values := make([]int64, n)
		for i := range n {
			a[i], b[i], x[i], y[i], values[i] = d.number(), d.number(), complex(d.number(), d.number()), d.pair(), int64(d.next()>>15)
		}
		put("SumNumbers", func() string { return show(impl.SumNumbers(a)) })
		put("DotNumbers", func() string { return show(impl.DotNumbers(a, b)) })
		put("SumComplex", func() string { return show(impl.SumComplex(x)) })
		put("DotComplex", func() string { return show(impl.DotComplex(x, y)) })
		put("DotConjugate", func() string { return show(impl.DotConjugate(x, y)) })
		put("PowersOf", func() string { return show(impl.PowersOf(x)) })
		put("NumbersText", func() string { return show(impl.NumbersText(a)) })
		put("ComplexText", func() string { return show(impl.ComplexText(x)) })
		put("ListText", func() string { return show(impl.ListText(values)) })
	}
	return list
}

func callsWithTexts() []call {
	var list []call
	put := func(name string, run func() string) { list = append(list, call{name, run}) }
	texts := []string{
		"", "none", "ring", "3f800000", "3f800000,7fc00000", "3f80000000000000,00000000c0000000", "0", "-12", "1,-2,3", "10000000",
		",", "\x00", "\xff\xfe", "é", strings.Repeat(",", 300), strings.Repeat("x", 100000), repeated("00000001", 300),
	}
	for _, s := range texts {
		put("ReadNumbers", func() string { return show(impl.ReadNumbers(s)) })
		put("ReadComplex", func() string { return show(impl.ReadComplex(s)) })
		put("ReadDecimal", func() string { return show(impl.ReadDecimal(s)) })
		put("ReadList", func() string { return show(impl.ReadList(s)) })
		put("IsName", func() string { return show(impl.IsName(s)) })
		put("CheckOf", func() string { return show(impl.CheckOf(5, s)) })
	}
	return list
}

func TestEqualArgumentsHaveEqualResults(t *testing.T) {
	testEqualResults(t, append(append(callsWithNumbers(), callsWithLists()...), callsWithTexts()...), 40)
}

// testEqualResults makes the same calls in order, backwards and side by side:
// nothing that is kept may show, and every call must come back. The calls are
// of all the functions of a chapter.
func testEqualResults(t *testing.T, calls []call, functions int) {
	t.Helper()
	names := map[string]bool{}
	first := make([]string, len(calls))
	for i, c := range calls {
		names[c.name] = true
		first[i] = c.run()
	}
	if len(names) != functions {
		t.Errorf("%d functions are called, not the %d of the chapter", len(names), functions)
	}
	for i := len(calls) - 1; i >= 0; i-- {
		is(t, calls[i].name+" again", calls[i].run(), first[i])
	}
	var group sync.WaitGroup
	for range 4 {
		group.Go(func() {
			for i, c := range calls {
				if got := c.run(); got != first[i] {
					t.Errorf("%s side by side: got %s, want %s", c.name, got, first[i])
				}
			}
		})
	}
	group.Wait()
}

// guarded returns the list with other items behind it, in its capacity and
// beyond, and a test that nothing in all that memory has changed.
func guarded[T any](list []T, other T) ([]T, func() bool) {
	memory := append(append([]T{other}, list...), copies(other, 8)...)
	before := show(any(append([]T(nil), memory...)))
	part := memory[1 : 1+len(list) : len(memory)-2]
	return part, func() bool { return show(any(memory)) == before }
}

// guardAll puts lists into guarded memory, and returns a test that nothing in
// all that memory has changed.
func guardAll(lists ...*[]int64) func() bool {
	var checks []func() bool
	for _, list := range lists {
		part, isSame := guarded(*list, 77)
		*list = part
		checks = append(checks, isSame)
	}
	return func() bool {
		for _, isSame := range checks {
			if !isSame() {
				return false
			}
		}
		return true
	}
}

func TestArgumentsStayAsTheyAre(t *testing.T) {
	unchanged := func(name string, checks ...func() bool) {
		t.Helper()
		for _, check := range checks {
			if !check() {
				t.Errorf("%s has changed an argument", name)
			}
		}
	}
	d := dice(13)
	for _, n := range listSizes {
		var numbers, others []float32
		var pairs, otherPairs []complex64
		var values []int64
		for range n {
			numbers, others = append(numbers, d.number()), append(others, d.number())
			pairs, otherPairs = append(pairs, complex(d.number(), d.number())), append(otherPairs, d.pair())
			values = append(values, int64(d.next()>>15)-1000)
		}
		a, sameA := guarded(numbers, 77)
		b, sameB := guarded(others, 78)
		x, sameX := guarded(pairs, complex(77, 78))
		y, sameY := guarded(otherPairs, complex(79, 80))
		v, sameV := guarded(values, 81)
		impl.SumNumbers(a)
		unchanged("SumNumbers", sameA)
		impl.DotNumbers(a, b)
		unchanged("DotNumbers", sameA, sameB)
		impl.NumbersText(a)
		unchanged("NumbersText", sameA)
		impl.SumComplex(x)
		unchanged("SumComplex", sameX)
		impl.DotComplex(x, y)
		unchanged("DotComplex", sameX, sameY)
		impl.DotConjugate(x, y)
		unchanged("DotConjugate", sameX, sameY)
		impl.PowersOf(x)
		unchanged("PowersOf", sameX)
		impl.ComplexText(x)
		unchanged("ComplexText", sameX)
		impl.ListText(v)
		unchanged("ListText", sameV)
	}
}

// testFresh reads a text again and again, and spoils all memory of each result.
func testFresh[T any](t *testing.T, name, text string, read func(string) ([]T, bool), spoil T) {
	t.Helper()
	first, ok := read(text)
	want := show(any(first), ok)
	for range 3 {
		again, ok := read(text)
		is(t, name+" of "+text, show(any(again), ok), want)
		all := again[:cap(again)]
		for i := range all {
			all[i] = spoil
		}
		is(t, name+" of "+text+", the first result", show(any(first), true), want)
	}
}

func TestResultsAreNewMemory(t *testing.T) {
	for _, text := range []string{"none", "3f800000", "3f800000,c0000000,7fc00000"} {
		testFresh(t, "ReadNumbers", text, impl.ReadNumbers, 77)
	}
	for _, text := range []string{"none", "3f80000000000000", "3f80000000000000,00000000c0000000"} {
		testFresh(t, "ReadComplex", text, impl.ReadComplex, complex(77, 78))
	}
	for _, text := range []string{"none", "0", "1,-2,3,4,5"} {
		testFresh(t, "ReadList", text, impl.ReadList, 77)
	}
}

func TestExamplesOfChapterOne(t *testing.T) {
	is(t, "a product", show(impl.MulComplex(complex(1, 2), complex(3, -1))), show(complex64(complex(5, 5))))
	is(t, "a quotient", show(impl.QuotientOf(complex(0, 4), 2)), show(complex64(complex(0, 2))))
	is(t, "a phasor", show(impl.PhasorOf(0.25)), show(complex64(complex(0, 1))))
	is(t, "its angle", show(impl.AngleOf(impl.PhasorOf(0.25))), show(float32(0.25)))
	is(t, "the text of 1", show(impl.ComplexText([]complex64{1})), `"3f80000000000000" true`)
	is(t, "tenths of decibels", show(impl.TenthsOf(1)), "0 true")
}

func TestLimitsOfChapterOne(t *testing.T) {
	got := []int64{impl.MaxNumbers, impl.MaxValue, impl.MaxItems, impl.CheckSize}
	is(t, "limits", show(got), "[256 1000000000000000 64 65003]")
}
