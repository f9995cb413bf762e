package tests

import (
	"math"
	"runtime"
	"slices"
	"sync"
	"testing"
	"testing/synctest"

	"loop.example/feedswarm/impl"
)

// roomyView returns a view that lies within larger memory, and the whole of it. What lies around the view would belong to it, too.
func roomyView(view []impl.Pair, around int) ([]impl.Pair, []impl.Pair) {
	before := []impl.Pair{{Key: -around - 2, Value: around}, {Key: -around - 1, Value: around}}
	behind := []impl.Pair{}
	for place := range 12 {
		behind = append(behind, impl.Pair{Key: 10 + around + place, Value: around})
	}
	whole := slices.Concat(before, view, behind)
	return whole[2 : 2+len(view)], whole
}

// viewLengths returns numbers of entries of a view: some that there are, and some that there are not.
func viewLengths(feeds [][]impl.Entry) []int {
	many := manyEntries(feeds)
	return []int{math.MinInt, -1, 0, 1, many / 2, many - 1, many, many + 1, math.MaxInt}
}

// viewAt returns the view that ViewAt returns.
func viewAt(feeds [][]impl.Entry, n int) []impl.Pair {
	view, _ := impl.ViewAt(feeds, n)
	return view
}

// memoryGrowths returns entries before and now, valid and invalid ones, that have grown or not.
func memoryGrowths() []growth {
	list := fewGrowths()
	for number, g := range fewGrowths() {
		if number%4 == 0 {
			list = append(list, growth{g.now, g.before})
		}
	}
	for number, invalid := range invalidJoins() {
		valid := list[number%len(list)].now
		list = append(list, growth{invalid, valid}, growth{valid, invalid}, growth{invalid, invalid})
	}
	return list
}

// viewAnswers are the results of all calls for entries, before and now.
type viewAnswers struct {
	views  [][]impl.Pair
	ok     []bool
	values []int
	kept   []int
	grows  []bool
}

// viewAnswersOf returns the results of all calls for entries, before and now.
func viewAnswersOf(before [][]impl.Entry, now [][]impl.Entry) viewAnswers {
	answers := viewAnswers{
		kept:  []int{impl.ViewKept(before, now), impl.ViewKept(now, before), impl.ViewKept(now, now)},
		grows: []bool{impl.ViewGrows(before, now), impl.ViewGrows(now, before), impl.ViewGrows(before, before)},
	}
	for _, feeds := range [][][]impl.Entry{before, now} {
		for _, n := range viewLengths(feeds) {
			view, ok := impl.ViewAt(feeds, n)
			answers.views = append(answers.views, view)
			answers.ok = append(answers.ok, ok)
			for key := -1; key <= 10; key++ {
				value, found := impl.ViewGet(view, key)
				answers.values = append(answers.values, value)
				answers.ok = append(answers.ok, found)
			}
		}
	}
	return answers
}

// clone returns a copy of results that shares no memory with them.
func (a viewAnswers) clone() viewAnswers {
	copied := viewAnswers{ok: slices.Clone(a.ok), values: slices.Clone(a.values), kept: slices.Clone(a.kept), grows: slices.Clone(a.grows)}
	for _, view := range a.views {
		copied.views = append(copied.views, slices.Clone(view))
	}
	return copied
}

// equal reports whether results are equal.
func (a viewAnswers) equal(b viewAnswers) bool {
	return slices.EqualFunc(a.views, b.views, slices.Equal[[]impl.Pair]) && slices.Equal(a.ok, b.ok) && slices.Equal(a.values, b.values) && slices.Equal(a.kept, b.kept) && slices.Equal(a.grows, b.grows)
}

// What lies around the entries and their clocks is neither read nor changed, and neither are they changed. This is seen after each call, because a later one could take a change back.
func TestViewsKeepTheirEntries(t *testing.T) {
	for _, plain := range memoryGrowths() {
		for _, around := range []int{-7, 0, 1} {
			before, beforeUnchanged := roomyJoins(plain.before, around)
			now, nowUnchanged := roomyJoins(plain.now, around)
			check := func(name string, same bool) {
				t.Helper()
				if !same {
					t.Fatalf("%s of %v and %v depends on what lies around", name, plain.before, plain.now)
				}
				if !beforeUnchanged() || !nowUnchanged() {
					t.Fatalf("%s changes %v or %v", name, plain.before, plain.now)
				}
			}
			for _, n := range viewLengths(plain.now) {
				check("ViewAt", slices.Equal(viewAt(now, n), viewAt(plain.now, n)))
			}
			check("ViewKept", impl.ViewKept(before, now) == impl.ViewKept(plain.before, plain.now))
			check("ViewKept", impl.ViewKept(now, before) == impl.ViewKept(plain.now, plain.before))
			check("ViewGrows", impl.ViewGrows(before, now) == impl.ViewGrows(plain.before, plain.now))
			check("ViewGrows", impl.ViewGrows(now, before) == impl.ViewGrows(plain.now, plain.before))
		}
	}
}

// What lies around a view is neither read nor changed, and neither is the view changed, also if it is none.
func TestViewGetKeepsItsView(t *testing.T) {
	views := notViews()
	for number, keys := range viewKeys() {
		if number%5 == 0 || len(keys) < 3 {
			views = append(views, viewWithKeys(keys...))
		}
	}
	for _, plain := range views {
		for _, around := range []int{0, 1, 50} {
			view, whole := roomyView(plain, around)
			before := slices.Clone(whole)
			for _, key := range append(askedKeys(plain), keysOfView(whole)...) {
				want, wantOk := plainViewGet(plain, key)
				checkViewGet(t, view, key, want, wantOk)
				if !slices.Equal(whole, before) {
					t.Fatalf("ViewGet of %d changes %v to %v", key, before, whole)
				}
			}
		}
	}
}

// The previous entries may be the beginning of the same memory as the present ones.
func TestGrowthWithinTheSameMemory(t *testing.T) {
	for _, g := range fewGrowths() {
		now, unchanged := roomyJoins(g.now, 1)
		before := slices.Clone(now)
		for writer, entries := range g.before {
			before[writer] = before[writer][:len(entries)]
		}
		checkViewKept(t, before, now, plainViewKept(g.before, g.now))
		checkViewGrows(t, before, now, true)
		checkViewKept(t, now, before, plainViewKept(g.now, g.before))
		checkViewGrows(t, now, before, plainViewGrows(g.now, g.before))
		checkViewKept(t, now, now, manyEntries(g.now))
		if !unchanged() {
			t.Fatalf("%v is changed", g.now)
		}
	}
}

// Whatever is written into a view, up to its capacity, must be seen neither in the entries nor in other views.
func TestViewsShareNoMemory(t *testing.T) {
	for _, g := range memoryGrowths() {
		feeds, unchanged := roomyJoins(g.now, 1)
		for _, n := range viewLengths(g.now) {
			for _, mark := range []int{-9, 0, math.MaxInt} {
				checkOwnMemory(t, "ViewAt", func() []impl.Pair { return viewAt(feeds, n) }, impl.Pair{Key: mark, Value: mark})
			}
		}
		if !unchanged() {
			t.Fatalf("a view shares memory with %v", g.now)
		}
	}
}

// Views of other numbers of entries and of other entries must not be seen in a view.
func TestViewsOfDifferentCallsShareNoMemory(t *testing.T) {
	full := entriesByTurns(t, 0, slices.Repeat(viewWithKeys(0, 1, 2, 3, 4, 5, 6, 7, 8, 9), 2)...)
	for _, g := range fewGrowths() {
		for _, n := range viewLengths(g.now) {
			view := viewAt(g.now, n)
			want := slices.Clone(view)
			for _, other := range viewLengths(g.now) {
				for _, result := range [][]impl.Pair{viewAt(g.now, other), viewAt(g.before, other), viewAt(full, 20)} {
					result = result[:cap(result)]
					for place := range result {
						result[place] = impl.Pair{Key: -9, Value: -9}
					}
				}
			}
			if !slices.Equal(view, want) {
				t.Fatalf("the view %v of %v becomes %v", want, g.now, view)
			}
		}
	}
}

// A later change of the entries or of their clocks must not be seen in a view.
func TestViewsKeepNoArguments(t *testing.T) {
	for _, g := range memoryGrowths() {
		before, now := cloneJoins(g.before), cloneJoins(g.now)
		got := viewAnswersOf(before, now)
		want := got.clone()
		spoilJoins(before, -5)
		spoilJoins(now, -5)
		if !got.equal(want) {
			t.Fatalf("the views of %v and %v change with them", g.before, g.now)
		}
	}
}

// A view that one reader changes is not that of another one, which goes on with the same entries.
func TestViewsOfTwoReadersShareNoMemory(t *testing.T) {
	for _, g := range fewGrowths() {
		for n := range manyEntries(g.before) {
			view := mustView(t, g.before, n)
			want, _ := plainViewAt(g.before, n+1)
			view = append(view, impl.Pair{Key: 77, Value: 77})
			next := mustView(t, g.before, n+1)
			for place := range view {
				view[place].Value = -1
			}
			if !slices.Equal(next, want) {
				t.Fatalf("the view of %v after %d entries is %v", g.before, n+1, next)
			}
		}
	}
}

// No state is kept between calls: the answers are the same after those for other entries, valid and invalid ones.
func TestViewAnswersAreTheSameLater(t *testing.T) {
	list := memoryGrowths()
	answers := []viewAnswers{}
	for _, g := range list {
		answers = append(answers, viewAnswersOf(g.before, g.now))
	}
	for number, g := range slices.Backward(list) {
		if got := viewAnswersOf(g.before, g.now); !got.equal(answers[number]) {
			t.Fatalf("the answers for %v and %v are %v, and %v later", g.before, g.now, answers[number], got)
		}
	}
}

// All goroutines that a call starts must have ended with it: none may read the entries later.
// The test of a bubble fails if a goroutine of it still waits when the test ends.
func TestViewGoroutinesAreJoined(t *testing.T) {
	for _, g := range memoryGrowths() {
		synctest.Test(t, func(t *testing.T) {
			before, now := cloneJoins(g.before), cloneJoins(g.now)
			got := viewAnswersOf(before, now)
			want := got.clone()
			spoilJoins(before, -5)
			spoilJoins(now, -5)
			synctest.Wait()
			if !got.equal(want) || !got.equal(viewAnswersOf(g.before, g.now)) {
				t.Fatalf("the results of %v and %v change after the calls", g.before, g.now)
			}
		})
	}
}

// The result depends neither on the number of processors nor on what else is called at the same time, with the same entries.
func TestViewsDoNotDependOnScheduling(t *testing.T) {
	defer runtime.GOMAXPROCS(runtime.GOMAXPROCS(0))
	for _, processors := range []int{1, 2, 8} {
		runtime.GOMAXPROCS(processors)
		for place, g := range memoryGrowths() {
			if place%5 != 0 {
				continue
			}
			before, beforeUnchanged := roomyJoins(g.before, 1)
			now, nowUnchanged := roomyJoins(g.now, 1)
			want := viewAnswersOf(cloneJoins(g.before), cloneJoins(g.now))
			results := make([]viewAnswers, 8)
			var calls sync.WaitGroup
			for worker := range results {
				calls.Go(func() { results[worker] = viewAnswersOf(before, now) })
			}
			calls.Wait()
			for _, got := range results {
				if !got.equal(want) {
					t.Fatalf("the results of %v and %v are %v or %v", g.before, g.now, got, want)
				}
			}
			if !beforeUnchanged() || !nowUnchanged() {
				t.Fatalf("the entries %v or %v are changed", g.before, g.now)
			}
		}
	}
}

// The lists and the clocks of the entries before may be nil while those now are empty, and the other way round.
func TestViewsOfNilAndEmptyEntriesAreEqual(t *testing.T) {
	list := memoryGrowths()
	for number, g := range fewGrowths() {
		for place, r := range placesOf(g.now) {
			if (place+number)%6 != 0 {
				continue
			}
			noClock := withEntry(g.now, r, func(e *impl.Entry) { e.Clock = nil })
			list = append(list, growth{g.before, noClock}, growth{noClock, noClock})
		}
	}
	for _, g := range list {
		want := viewAnswersOf(g.before, g.now)
		for _, got := range []viewAnswers{
			viewAnswersOf(withNil(g.before), withNil(g.now)),
			viewAnswersOf(withNil(g.before), withEmpty(g.now)),
			viewAnswersOf(withEmpty(g.before), withNil(g.now)),
			viewAnswersOf(withEmpty(g.before), withEmpty(g.now)),
		} {
			if !got.equal(want) {
				t.Fatalf("the results of %v and %v depend on nil", g.before, g.now)
			}
		}
	}
	want := viewAnswersOf(nil, nil)
	for _, empty := range [][][]impl.Entry{{}, make([][]impl.Entry, 0, 3), noEntries()[:0], feedsOf([][]int{{1, 0, 0}}, nil, nil)[:0]} {
		for _, got := range []viewAnswers{viewAnswersOf(nil, empty), viewAnswersOf(empty, nil), viewAnswersOf(empty, empty)} {
			if !got.equal(want) {
				t.Fatalf("the answers for no lists are %v or %v", want, got)
			}
		}
	}
}

func TestViewsOfNilAndEmptyAreEqual(t *testing.T) {
	for _, view := range [][]impl.Pair{nil, {}, make([]impl.Pair, 0, 5), viewWithKeys(0, 1, 2)[:0], viewWithKeys(0, 1, 2)[3:]} {
		for key := -2; key <= 12; key++ {
			checkViewGet(t, view, key, 0, false)
		}
	}
	for _, feeds := range [][][]impl.Entry{{nil, nil, nil}, {{}, {}, {}}, {nil, {}, nil}} {
		checkViewAt(t, feeds, 0, nil, true)
		for _, n := range []int{-1, 1} {
			checkViewAt(t, feeds, n, nil, false)
		}
		checkViewKept(t, feeds, noEntries(), 0)
		checkViewKept(t, noEntries(), feeds, 0)
	}
}
