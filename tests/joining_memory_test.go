package tests

import (
	"math"
	"math/rand"
	"runtime"
	"slices"
	"sync"
	"testing"
	"testing/synctest"

	"loop.example/feedswarm/impl"
)

// strangeEntry returns an entry that is nowhere else.
func strangeEntry(mark int) impl.Entry {
	return impl.Entry{Clock: []int{mark, mark, mark}, Key: mark, Value: mark}
}

// sameSlice reports whether two slices are the same memory, with the same length and the same room.
func sameSlice[T any](list []T, other []T) bool {
	return len(list) == len(other) && cap(list) == cap(other) && (cap(list) == 0 || &list[:1][0] == &other[:1][0])
}

// sameEntry reports whether two entries have the same key, the same value, and the same memory as their clock.
func sameEntry(e impl.Entry, other impl.Entry) bool {
	return e.Key == other.Key && e.Value == other.Value && sameSlice(e.Clock, other.Clock)
}

// roomyJoins returns entries whose lists, entries and clocks lie within larger memory, and a function that reports whether all of it is unchanged.
func roomyJoins(feeds [][]impl.Entry, around int) ([][]impl.Entry, func() bool) {
	strange := []impl.Entry{strangeEntry(around)}
	lists, entries, clocks := [][]impl.Entry{strange}, [][]impl.Entry{strange}, [][]int{strange[0].Clock}
	for _, plain := range feeds {
		whole := slices.Clone(strange)
		for _, e := range plain {
			clock, clockWhole := roomy(e.Clock)
			clocks = append(clocks, clockWhole)
			whole = append(whole, impl.Entry{Clock: clock, Key: e.Key, Value: e.Value})
		}
		whole = append(whole, slices.Repeat(strange, 12)...)
		entries = append(entries, whole)
		lists = append(lists, whole[1:1+len(plain)])
	}
	lists = append(lists, slices.Repeat([][]impl.Entry{strange}, 5)...)
	before, beforeEntries, beforeClocks := slices.Clone(lists), [][]impl.Entry{}, [][]int{}
	for _, whole := range entries {
		beforeEntries = append(beforeEntries, slices.Clone(whole))
	}
	for _, clock := range clocks {
		beforeClocks = append(beforeClocks, slices.Clone(clock))
	}
	return lists[1 : 1+len(feeds)], func() bool {
		return slices.EqualFunc(lists, before, sameSlice[impl.Entry]) && slices.EqualFunc(clocks, beforeClocks, slices.Equal[[]int]) &&
			slices.EqualFunc(entries, beforeEntries, func(whole []impl.Entry, other []impl.Entry) bool {
				return slices.EqualFunc(whole, other, sameEntry)
			})
	}
}

// joinCall is a call of JoinAppend.
type joinCall struct {
	writer int
	known  func(feeds [][]impl.Entry) []int
	key    int
}

// call returns the entries with a further one, as JoinAppend returns them.
func (c joinCall) call(feeds [][]impl.Entry) [][]impl.Entry {
	further, _ := impl.JoinAppend(feeds, c.writer, c.known(feeds), c.key, 50)
	return further
}

// lastClock returns the last clock of the first writer that has entries, in its own memory, as what is known.
func lastClock(feeds [][]impl.Entry) []int {
	for _, entries := range feeds {
		if len(entries) > 0 {
			return entries[len(entries)-1].Clock
		}
	}
	return []int{0, 0, 0}
}

// joinCalls returns calls that succeed, and such that fail for each reason.
func joinCalls() []joinCall {
	calls := []joinCall{}
	for writer := -1; writer <= impl.Writers; writer++ {
		for _, known := range []func(feeds [][]impl.Entry) []int{
			allKnown,
			lastClock,
			func(_ [][]impl.Entry) []int { return []int{0, 0, 0} },
			func(_ [][]impl.Entry) []int { return []int{1, 0, 1} },
			func(_ [][]impl.Entry) []int { return []int{0, 9, 0} },
			func(_ [][]impl.Entry) []int { return nil },
		} {
			calls = append(calls, joinCall{writer, known, 5})
		}
		calls = append(calls, joinCall{writer, allKnown, -1}, joinCall{writer, allKnown, 10})
	}
	return calls
}

// memoryJoins returns valid entries of all kinds, and invalid ones.
func memoryJoins() [][][]impl.Entry {
	random := rand.New(rand.NewSource(49))
	lists := append(fewJoins(), nil, make([][]impl.Entry, impl.Writers-1), make([][]impl.Entry, impl.Writers+1))
	for range 60 {
		lists = append(lists, mixedJoins(random))
	}
	for _, feeds := range fewJoins() {
		for writer, entries := range feeds {
			if len(entries) == impl.MaxEntries {
				lists = append(lists, withLast(feeds, writer, impl.Entry{Clock: allKnown(feeds)}))
			}
		}
	}
	return lists
}

// joinAnswers are the results of all calls for entries.
type joinAnswers struct {
	further [][][]impl.Entry
	order   []impl.Ref
	stable  int
	valid   bool
	sees    []bool
}

// joinAnswersOf returns the results of all calls for entries.
func joinAnswersOf(feeds [][]impl.Entry) joinAnswers {
	answers := joinAnswers{order: impl.JoinOrder(feeds), stable: impl.JoinStable(feeds), valid: impl.JoinValid(feeds)}
	for _, c := range joinCalls() {
		answers.further = append(answers.further, c.call(feeds))
	}
	for writer := -1; writer <= impl.Writers; writer++ {
		for index := -1; index <= impl.MaxEntries; index += 2 {
			a, b := impl.Ref{Writer: writer, Index: index}, impl.Ref{Writer: (writer + index) % impl.Writers, Index: index / 3}
			answers.sees = append(answers.sees, impl.JoinSees(feeds, a, b), impl.JoinSees(feeds, b, a))
		}
	}
	return answers
}

// clone returns a copy of results that shares no memory with them.
func (a joinAnswers) clone() joinAnswers {
	copied := joinAnswers{order: slices.Clone(a.order), stable: a.stable, valid: a.valid, sees: slices.Clone(a.sees)}
	for _, feeds := range a.further {
		copied.further = append(copied.further, cloneJoins(feeds))
	}
	return copied
}

// equal reports whether results are equal.
func (a joinAnswers) equal(b joinAnswers) bool {
	return slices.EqualFunc(a.further, b.further, equalJoins) && slices.Equal(a.order, b.order) && a.stable == b.stable && a.valid == b.valid && slices.Equal(a.sees, b.sees)
}

// spoilJoins writes into all memory of entries, up to the capacity of each list and of each clock.
func spoilJoins(feeds [][]impl.Entry, mark int) {
	whole := feeds[:cap(feeds)]
	for writer := range whole {
		entries := whole[writer][:cap(whole[writer])]
		for index := range entries {
			clock := entries[index].Clock[:cap(entries[index].Clock)]
			for place := range clock {
				clock[place] = mark
			}
			entries[index] = strangeEntry(mark)
		}
		whole[writer] = nil
	}
}

// What lies around the entries and their clocks is neither read nor changed, and neither are they changed. This is seen after each call, because a later one could take a change back.
func TestJoiningKeepsItsArguments(t *testing.T) {
	for _, plain := range memoryJoins() {
		for _, around := range []int{-7, 0, 1} {
			feeds, unchanged := roomyJoins(plain, around)
			check := func(name string, same bool) {
				t.Helper()
				if !same {
					t.Fatalf("%s of %v depends on what lies around", name, plain)
				}
				if !unchanged() {
					t.Fatalf("%s changes %v", name, plain)
				}
			}
			check("JoinValid", impl.JoinValid(feeds) == impl.JoinValid(plain))
			check("JoinOrder", slices.Equal(impl.JoinOrder(feeds), impl.JoinOrder(plain)))
			check("JoinStable", impl.JoinStable(feeds) == impl.JoinStable(plain))
			a, b := impl.Ref{Writer: 1}, impl.Ref{}
			check("JoinSees", impl.JoinSees(feeds, a, b) == impl.JoinSees(plain, a, b))
			for _, c := range joinCalls() {
				check("JoinAppend", equalJoins(c.call(feeds), c.call(plain)))
			}
		}
	}
}

// What is known is not changed, and neither is what lies around it.
func TestJoinAppendKeepsKnownNumbers(t *testing.T) {
	eachAppend(fewJoins(), func(feeds [][]impl.Entry, writer int, plain []int) {
		known, whole := roomy(plain)
		before := slices.Clone(whole)
		further := mustAppend(t, feeds, writer, known, 1, 1)
		if !slices.Equal(whole, before) {
			t.Fatalf("JoinAppend of %v, %d and %v changes the known numbers", feeds, writer, plain)
		}
		want := cloneJoins(further)
		for place := range whole {
			whole[place] = -7
		}
		if !equalJoins(further, want) {
			t.Fatalf("JoinAppend of %v, %d and %v keeps the known numbers", feeds, writer, plain)
		}
	})
}

// A clock of the entries themselves may be what is known: it is not changed, and the new entry does not keep it.
func TestJoinAppendOfAClockAsKnownNumbers(t *testing.T) {
	for _, plain := range fewJoins() {
		for _, place := range placesOf(plain) {
			for writer := range impl.Writers {
				feeds, unchanged := roomyJoins(plain, 0)
				clock := entryAt(feeds, place).Clock
				want, wantOk := plainAppend(plain, writer, entryAt(plain, place).Clock, 1, 1)
				got, ok := impl.JoinAppend(feeds, writer, clock, 1, 1)
				if ok != wantOk || !equalJoins(got, want) || !unchanged() {
					t.Fatalf("JoinAppend of %v, %d and the clock of %v is %v, %v", feeds, writer, place, got, ok)
				}
				spoilJoins(got, -9)
				if !unchanged() {
					t.Fatalf("JoinAppend of %v, %d and the clock of %v keeps it", plain, writer, place)
				}
			}
		}
	}
}

// Whatever is written into a result, up to its capacity, must be seen neither in the arguments nor in other results.
func TestJoinResultsShareNoMemory(t *testing.T) {
	for _, plain := range memoryJoins() {
		feeds, unchanged := roomyJoins(plain, 1)
		for _, mark := range []int{-9, 0, math.MaxInt} {
			checkOwnMemory(t, "JoinOrder", func() []impl.Ref { return impl.JoinOrder(feeds) }, impl.Ref{Writer: mark, Index: mark})
		}
		for _, c := range joinCalls() {
			first, second := c.call(feeds), c.call(feeds)
			want := cloneJoins(second)
			spoilJoins(first, -9)
			if !equalJoins(second, want) {
				t.Fatalf("two results of JoinAppend of %v share memory", plain)
			}
			if !unchanged() {
				t.Fatalf("a result of JoinAppend shares memory with %v", plain)
			}
			if later := c.call(feeds); !equalJoins(later, want) {
				t.Fatalf("JoinAppend of %v is %v, and %v in a later call", plain, want, later)
			}
		}
	}
}

// No two lists and no two clocks of one result share memory: what is written into one of them, up to its capacity, is not seen in any other.
func TestJoinAppendSharesNoMemoryWithinItsResult(t *testing.T) {
	for _, plain := range memoryJoins() {
		for _, c := range joinCalls() {
			got := c.call(plain)
			want := cloneJoins(got)
			for _, place := range placesOf(got) {
				clock := entryAt(got, place).Clock
				whole := clock[:cap(clock)]
				for number := range whole {
					whole[number] = -9
				}
				if changed := withEntry(want, place, func(e *impl.Entry) { e.Clock = clock }); !equalJoins(got, changed) {
					t.Fatalf("the clock of %v shares memory with others of %v", place, want)
				}
				copy(clock, entryAt(want, place).Clock)
			}
			for writer, entries := range got {
				whole := entries[:cap(entries)]
				before := slices.Clone(whole)
				for place := range whole {
					whole[place] = strangeEntry(-9)
				}
				others := cloneJoins(want)
				others[writer] = entries
				if !equalJoins(got, others) {
					t.Fatalf("the list of %d shares memory with others of %v", writer, want)
				}
				copy(whole, before)
			}
		}
	}
}

// A later change of the entries or of their clocks must not be seen in a result.
func TestJoinResultsKeepNoArguments(t *testing.T) {
	for _, plain := range memoryJoins() {
		feeds := cloneJoins(plain)
		got := joinAnswersOf(feeds)
		want := got.clone()
		spoilJoins(feeds, -5)
		if !got.equal(want) {
			t.Fatalf("the results of %v change with it", plain)
		}
	}
}

// The results of a first step are the arguments of a second one: two writers append to the same entries, which they must not share.
func TestJoiningOfTwoBranchesSharesNoMemory(t *testing.T) {
	for _, plain := range memoryJoins() {
		for _, c := range joinCalls() {
			trunk := c.call(plain)
			before := cloneJoins(trunk)
			for writer := range impl.Writers {
				known := lastClock(trunk)
				first, firstOk := impl.JoinAppend(trunk, writer, known, 1, 10)
				wantFirst, wantFirstOk := plainAppend(before, writer, lastClock(before), 1, 10)
				second, secondOk := impl.JoinAppend(trunk, writer, []int{0, 0, 0}, 2, 20)
				wantSecond, wantSecondOk := plainAppend(before, writer, []int{0, 0, 0}, 2, 20)
				if firstOk != wantFirstOk || secondOk != wantSecondOk || !equalJoins(first, wantFirst) || !equalJoins(second, wantSecond) {
					t.Fatalf("%v branches into %v and %v", before, first, second)
				}
				if !equalJoins(trunk, before) {
					t.Fatalf("%v becomes %v while it branches", before, trunk)
				}
			}
		}
	}
}

// No state is kept between calls: the answers are the same after those for other entries, valid and invalid ones.
func TestJoiningAnswersAreTheSameLater(t *testing.T) {
	lists := memoryJoins()
	answers := []joinAnswers{}
	for _, feeds := range lists {
		answers = append(answers, joinAnswersOf(feeds))
	}
	for number, feeds := range slices.Backward(lists) {
		if got := joinAnswersOf(feeds); !got.equal(answers[number]) {
			t.Fatalf("the answers for %v are %v, and %v later", feeds, answers[number], got)
		}
	}
}

// All goroutines that a call starts must have ended with it: none may read the entries or write a result later.
// The test of a bubble fails if a goroutine of it still waits when the test ends.
func TestJoiningGoroutinesAreJoined(t *testing.T) {
	for _, plain := range memoryJoins() {
		synctest.Test(t, func(t *testing.T) {
			feeds := cloneJoins(plain)
			got := joinAnswersOf(feeds)
			want := got.clone()
			spoilJoins(feeds, -5)
			synctest.Wait()
			if !got.equal(want) || !got.equal(joinAnswersOf(plain)) {
				t.Fatalf("the results of %v change after the calls", plain)
			}
		})
	}
}

// The result depends neither on the number of processors nor on what else is called at the same time, with the same entries.
func TestJoinResultsDoNotDependOnScheduling(t *testing.T) {
	defer runtime.GOMAXPROCS(runtime.GOMAXPROCS(0))
	for _, processors := range []int{1, 2, 8} {
		runtime.GOMAXPROCS(processors)
		for place, plain := range memoryJoins() {
			if place%5 != 0 {
				continue
			}
			feeds, unchanged := roomyJoins(plain, 1)
			want := joinAnswersOf(cloneJoins(plain))
			results := make([]joinAnswers, 8)
			var calls sync.WaitGroup
			for worker := range results {
				calls.Go(func() { results[worker] = joinAnswersOf(feeds) })
			}
			calls.Wait()
			for _, got := range results {
				if !got.equal(want) {
					t.Fatalf("the results of %v are %v or %v", plain, got, want)
				}
			}
			if !unchanged() {
				t.Fatalf("the entries %v are changed", plain)
			}
		}
	}
}

// withNil returns the entries with nil for each empty list and for each empty clock, and withEmpty with empty slices that have room.
func withNil(feeds [][]impl.Entry) [][]impl.Entry {
	return withInstead(feeds, nil, nil)
}

func withEmpty(feeds [][]impl.Entry) [][]impl.Entry {
	return withInstead(feeds, slices.Repeat([]impl.Entry{strangeEntry(1)}, 9)[:0], []int{1, 1, 1, 1}[:0])
}

// withInstead returns the entries with others for empty lists and empty clocks.
func withInstead(feeds [][]impl.Entry, list []impl.Entry, clock []int) [][]impl.Entry {
	copies := cloneJoins(feeds)
	for writer, entries := range copies {
		if len(entries) == 0 {
			copies[writer] = list
		}
		for index := range entries {
			if len(entries[index].Clock) == 0 {
				entries[index].Clock = clock
			}
		}
	}
	return copies
}

func TestJoiningOfNilAndEmptyIsEqual(t *testing.T) {
	lists := memoryJoins()
	for _, feeds := range fewJoins() {
		for _, place := range placesOf(feeds) {
			lists = append(lists, withEntry(feeds, place, func(e *impl.Entry) { e.Clock = nil }))
		}
	}
	for _, feeds := range lists {
		want := joinAnswersOf(feeds)
		if !joinAnswersOf(withNil(feeds)).equal(want) || !joinAnswersOf(withEmpty(feeds)).equal(want) {
			t.Fatalf("the results of %v depend on nil", feeds)
		}
	}
	want := joinAnswersOf(nil)
	for _, empty := range [][][]impl.Entry{{}, make([][]impl.Entry, 0, 3), feedsOf(nil, nil, nil)[:0], feedsOf([][]int{{1, 0, 0}}, nil, nil)[:0]} {
		if got := joinAnswersOf(empty); !got.equal(want) {
			t.Fatalf("the answers for no lists are %v or %v", want, got)
		}
	}
	for _, feeds := range fewJoins() {
		for writer := range impl.Writers {
			for _, known := range [][]int{nil, {}, make([]int, 0, 3), []int{0, 0, 0}[:0]} {
				checkJoinAppend(t, feeds, writer, known, 1, 1, nil, false)
			}
		}
	}
}

// Without entries the results have nothing in them, whether they are nil or not.
func TestJoiningResultsOfNoEntries(t *testing.T) {
	for _, feeds := range [][][]impl.Entry{nil, {}, {nil, nil, nil}, {{}, {}, {}}, {nil, {}, nil}} {
		if order := impl.JoinOrder(feeds); len(order) != 0 {
			t.Errorf("JoinOrder of %v is %v", feeds, order)
		}
		if further, ok := impl.JoinAppend(feeds, impl.Writers, []int{0, 0, 0}, 0, 0); ok || len(further) != 0 {
			t.Errorf("JoinAppend of %v is %v, %v", feeds, further, ok)
		}
	}
}
