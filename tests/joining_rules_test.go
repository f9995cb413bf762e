package tests

import (
	"math"
	"math/rand"
	"slices"
	"testing"

	"loop.example/feedswarm/impl"
)

// plainExists reports whether there is an entry at a place.
func plainExists(feeds [][]impl.Entry, place impl.Ref) bool {
	return slices.Contains(placesOf(feeds), place)
}

// plainKnows reports whether an entry knows that at another place, by the document's rule.
func plainKnows(feeds [][]impl.Entry, a impl.Ref, b impl.Ref) bool {
	return entryAt(feeds, a).Clock[b.Writer] > b.Index
}

// plainSees reports whether an entry sees another one, by the document's rule.
func plainSees(feeds [][]impl.Entry, a impl.Ref, b impl.Ref) bool {
	return plainKnows(feeds, a, b) && a != b
}

// plainFormed judges the lists, the clocks by themselves, the keys and the values by the document's rule.
func plainFormed(feeds [][]impl.Entry) bool {
	for writer, entries := range feeds {
		if len(entries) > 8 {
			return false
		}
		for index, e := range entries {
			if e.Key < 0 || e.Key > 9 || e.Value < 0 || e.Value > 99 || len(e.Clock) != 3 || len(feeds) != 3 || e.Clock[writer] != index+1 {
				return false
			}
			for other, count := range e.Clock {
				if count < 0 || count > len(feeds[other]) {
					return false
				}
			}
		}
	}
	return len(feeds) == 3
}

// plainJoinValid judges entries by the document's rule, with the entries that each one knows one by one.
func plainJoinValid(feeds [][]impl.Entry) bool {
	if !plainFormed(feeds) {
		return false
	}
	places := placesOf(feeds)
	for _, a := range places {
		for _, b := range places {
			if !plainSees(feeds, a, b) {
				continue
			}
			if plainSees(feeds, b, a) {
				return false
			}
			for _, c := range places {
				if plainKnows(feeds, b, c) && !plainKnows(feeds, a, c) {
					return false
				}
			}
		}
	}
	return true
}

// plainNumbersExist judges known numbers by the document's rule.
func plainNumbersExist(feeds [][]impl.Entry, known []int) bool {
	if len(known) != 3 {
		return false
	}
	for writer, count := range known {
		if count < 0 || count > len(feeds[writer]) {
			return false
		}
	}
	return true
}

// plainAppend appends an entry by the document's rule: it knows what it is told, and all that this knows, until nothing is new.
func plainAppend(feeds [][]impl.Entry, writer int, known []int, key int, value int) ([][]impl.Entry, bool) {
	if !plainJoinValid(feeds) || writer < 0 || writer > 2 || !plainNumbersExist(feeds, known) || key < 0 || key > 9 || value < 0 || value > 99 || len(feeds[writer]) == 8 {
		return nil, false
	}
	told := map[impl.Ref]bool{}
	work := []impl.Ref{}
	for _, place := range placesOf(feeds) {
		if place.Writer == writer || place.Index < known[place.Writer] {
			told[place] = true
			work = append(work, place)
		}
	}
	for len(work) > 0 {
		first := work[0]
		work = work[1:]
		for _, place := range placesOf(feeds) {
			if plainSees(feeds, first, place) && !told[place] {
				told[place] = true
				work = append(work, place)
			}
		}
	}
	clock := []int{0, 0, 0}
	clock[writer] = 1
	for place := range told {
		clock[place.Writer]++
	}
	return withLast(feeds, writer, impl.Entry{Clock: clock, Key: key, Value: value}), true
}

// plainJoinOrder returns the order by the document's rule.
func plainJoinOrder(feeds [][]impl.Entry) []impl.Ref {
	order := []impl.Ref{}
	if !plainJoinValid(feeds) {
		return order
	}
	places := placesOf(feeds)
	for range places {
		for _, next := range places {
			waits := slices.ContainsFunc(places, func(place impl.Ref) bool {
				return plainSees(feeds, next, place) && !slices.Contains(order, place)
			})
			// The places are those of the smallest writer first, and each entry sees those of its writer before it.
			if !waits && !slices.Contains(order, next) {
				order = append(order, next)
				break
			}
		}
	}
	return order
}

// plainStableEntry reports whether an entry is stable by the document's rule.
func plainStableEntry(feeds [][]impl.Entry, place impl.Ref) bool {
	for writer, entries := range feeds {
		if len(entries) == 0 {
			return false
		}
		if writer != place.Writer && !plainSees(feeds, impl.Ref{Writer: writer, Index: len(entries) - 1}, place) {
			return false
		}
	}
	return true
}

// plainJoinStable returns the number of stable entries by the document's rule.
func plainJoinStable(feeds [][]impl.Entry) int {
	if !plainJoinValid(feeds) {
		return -1
	}
	order := plainJoinOrder(feeds)
	for place, r := range slices.Backward(order) {
		if plainStableEntry(feeds, r) {
			return place + 1
		}
	}
	return 0
}

// checkJoinRules fails the test if a function does not follow the document's rules for these valid entries.
func checkJoinRules(t *testing.T, feeds [][]impl.Entry) {
	t.Helper()
	checkJoinValid(t, feeds, plainJoinValid(feeds))
	checkJoinOrder(t, feeds, plainJoinOrder(feeds))
	checkJoinStable(t, feeds, plainJoinStable(feeds))
	for _, a := range placesOf(feeds) {
		for _, b := range placesOf(feeds) {
			checkJoinSees(t, feeds, a, b, plainSees(feeds, a, b))
		}
	}
}

// checkAppendRules fails the test if JoinAppend does not follow the document's rules for these entries, whatever a writer knows.
func checkAppendRules(t *testing.T, feeds [][]impl.Entry, key int, value int) {
	t.Helper()
	for writer := range impl.Writers {
		for _, known := range fewKnown(feeds) {
			want, wantOk := plainAppend(feeds, writer, known, key, value)
			checkJoinAppend(t, feeds, writer, known, key, value, want, wantOk)
		}
	}
}

// checkJoinsRefused fails the test if a function accepts invalid entries.
func checkJoinsRefused(t *testing.T, feeds [][]impl.Entry) {
	t.Helper()
	checkJoinValid(t, feeds, false)
	checkJoinOrder(t, feeds, nil)
	checkJoinStable(t, feeds, -1)
	for writer := -1; writer <= impl.Writers; writer++ {
		for _, known := range [][]int{{0, 0, 0}, {1, 0, 0}, {0, 1, 1}, {1, 1, 1}, nil, {-1, 0, 0}} {
			checkJoinAppend(t, feeds, writer, known, 1, 1, nil, false)
		}
	}
	for a := range impl.Writers {
		for b := range impl.Writers {
			checkJoinSees(t, feeds, impl.Ref{Writer: a, Index: 1}, impl.Ref{Writer: b, Index: 0}, false)
			checkJoinSees(t, feeds, impl.Ref{Writer: a, Index: 0}, impl.Ref{Writer: b, Index: 0}, false)
		}
	}
	checkJoinSees(t, feeds, impl.Ref{Writer: -1, Index: 0}, impl.Ref{Writer: 0, Index: -1}, false)
}

func TestJoiningOfShortLists(t *testing.T) {
	for _, feeds := range shortJoins(4) {
		checkJoinRules(t, feeds)
		checkAppendRules(t, feeds, 0, 99)
	}
}

func TestJoiningOfLongLists(t *testing.T) {
	for _, feeds := range longJoins() {
		checkJoinRules(t, feeds)
		checkAppendRules(t, feeds, 9, 0)
	}
}

func TestJoiningOfNoEntries(t *testing.T) {
	none := [][]impl.Entry{{}, {}, {}}
	checkJoinValid(t, none, true)
	checkJoinOrder(t, none, nil)
	checkJoinStable(t, none, 0)
	for _, a := range notPlaces(none) {
		checkJoinSees(t, none, a, a, false)
		checkJoinSees(t, none, a, impl.Ref{}, false)
	}
	for writer := range impl.Writers {
		clock := withMember([]int{0, 0, 0}, writer, 1)
		want := withLast(none, writer, impl.Entry{Clock: clock, Key: 3, Value: 30})
		checkJoinAppend(t, none, writer, []int{0, 0, 0}, 3, 30, want, true)
		checkJoinAppend(t, none, writer, clock, 3, 30, nil, false)
		checkJoinOrder(t, want, []impl.Ref{{Writer: writer}})
		checkJoinStable(t, want, 0)
	}
}

// Each writer alone has up to MaxEntries entries, which are in order, and none of which is stable since the others have none.
func TestJoiningOfOneWriterAlone(t *testing.T) {
	for writer := range impl.Writers {
		feeds, order := feedsOf(nil, nil, nil), []impl.Ref{}
		for index := range impl.MaxEntries {
			for number := range index + 1 {
				// What it is told of itself has no effect.
				clock := withMember([]int{0, 0, 0}, writer, number)
				want := withLast(feeds, writer, impl.Entry{Clock: withMember(clock, writer, index+1), Key: index, Value: 99 - index})
				checkJoinAppend(t, feeds, writer, clock, index, 99-index, want, true)
			}
			feeds = mustAppend(t, feeds, writer, []int{0, 0, 0}, index, 99-index)
			order = append(order, impl.Ref{Writer: writer, Index: index})
			checkJoinOrder(t, feeds, order)
			checkJoinStable(t, feeds, 0)
			checkJoinRules(t, feeds)
		}
		for number := range impl.MaxEntries + 1 {
			checkJoinAppend(t, feeds, writer, withMember([]int{0, 0, 0}, writer, number), 1, 1, nil, false)
		}
	}
}

// One writer has no entries, and the others know all of each other, which is not enough.
func TestJoiningWhileAWriterHasNone(t *testing.T) {
	for none := range impl.Writers {
		feeds := feedsOf(nil, nil, nil)
		for range impl.MaxEntries {
			for writer := range impl.Writers {
				if writer != none {
					feeds = mustAppend(t, feeds, writer, allKnown(feeds), 2, 20)
				}
				checkJoinStable(t, feeds, 0)
			}
		}
		checkJoinRules(t, feeds)
		// As soon as it has an entry that knows the others, all but their last ones are stable.
		whole := mustAppend(t, feeds, none, allKnown(feeds), 2, 20)
		checkJoinStable(t, whole, 2*impl.MaxEntries-1)
		checkJoinStable(t, mustAppend(t, feeds, none, []int{0, 0, 0}, 2, 20), 0)
	}
}

// All writers have MaxEntries entries, so none can be appended.
func TestJoiningOfAllEntries(t *testing.T) {
	random := rand.New(rand.NewSource(46))
	for _, feeds := range joinsOf(random, []int{8, 8, 8}) {
		checkJoinRules(t, feeds)
		for writer := range impl.Writers {
			for _, known := range fewKnown(feeds) {
				checkJoinAppend(t, feeds, writer, known, 5, 55, nil, false)
			}
		}
		if order := impl.JoinOrder(feeds); len(order) != 24 {
			t.Fatalf("JoinOrder of %v is %v", feeds, order)
		}
	}
}

// The writers have full lists one by one, which counts for each of them alone.
func TestJoiningOfOneFullList(t *testing.T) {
	for full := range impl.Writers {
		feeds := feedsOf(nil, nil, nil)
		for range impl.MaxEntries {
			feeds = mustAppend(t, feeds, full, []int{0, 0, 0}, 7, 70)
		}
		for writer := range impl.Writers {
			for count := range impl.MaxEntries + 1 {
				known := withMember([]int{0, 0, 0}, full, count)
				if writer == full {
					checkJoinAppend(t, feeds, writer, known, 7, 70, nil, false)
					continue
				}
				want := withLast(feeds, writer, impl.Entry{Clock: withMember(known, writer, 1), Key: 7, Value: 70})
				checkJoinAppend(t, feeds, writer, known, 7, 70, want, true)
			}
			checkJoinAppend(t, feeds, writer, withMember([]int{0, 0, 0}, full, impl.MaxEntries+1), 7, 70, nil, false)
		}
	}
}

// Entries that know nothing of each other are in the order of their writers, all of the first one first.
func TestEntriesThatKnowNothingOfEachOther(t *testing.T) {
	for _, many := range [][]int{{1, 1, 1}, {2, 1, 3}, {0, 2, 2}, {3, 0, 1}, {8, 8, 8}} {
		clocks, want := make([][][]int, impl.Writers), []impl.Ref{}
		for writer, count := range many {
			for index := range count {
				clocks[writer] = append(clocks[writer], withMember([]int{0, 0, 0}, writer, index+1))
				want = append(want, impl.Ref{Writer: writer, Index: index})
			}
		}
		feeds := feedsOf(clocks...)
		checkJoinValid(t, feeds, true)
		checkJoinOrder(t, feeds, want)
		checkJoinStable(t, feeds, 0)
		for _, a := range want {
			for _, b := range want {
				checkJoinSees(t, feeds, a, b, a.Writer == b.Writer && a.Index > b.Index)
			}
		}
	}
}

// Of two entries, the first one knows the other, and this one does not know it. The one that knows is behind the other, whoever is the smaller writer.
func TestEntriesOfWhichOnlyOneKnowsTheOther(t *testing.T) {
	for a := range impl.Writers {
		for b := range impl.Writers {
			if a == b {
				continue
			}
			feeds := feedsOf(nil, nil, nil)
			feeds = mustAppend(t, feeds, b, []int{0, 0, 0}, 1, 10)
			feeds = mustAppend(t, feeds, a, allKnown(feeds), 2, 20)
			checkJoinSees(t, feeds, impl.Ref{Writer: a}, impl.Ref{Writer: b}, true)
			checkJoinSees(t, feeds, impl.Ref{Writer: b}, impl.Ref{Writer: a}, false)
			checkJoinOrder(t, feeds, []impl.Ref{{Writer: b}, {Writer: a}})
			checkJoinStable(t, feeds, 0)
		}
	}
}

// The writers wait for each other in each order: the second one knows the first one, and the third one knows the second one, and so the first one only by way of it.
func TestEntriesThatAreKnownByWayOfAThird(t *testing.T) {
	for _, turns := range [][]int{{0, 1, 2}, {0, 2, 1}, {1, 0, 2}, {1, 2, 0}, {2, 0, 1}, {2, 1, 0}} {
		a, b, c := impl.Ref{Writer: turns[0]}, impl.Ref{Writer: turns[1]}, impl.Ref{Writer: turns[2]}
		none := []int{0, 0, 0}
		feeds := mustAppend(t, feedsOf(nil, nil, nil), a.Writer, none, 1, 10)
		feeds = mustAppend(t, feeds, b.Writer, withMember(none, a.Writer, 1), 2, 20)
		feeds = mustAppend(t, feeds, c.Writer, withMember(none, b.Writer, 1), 3, 30)
		if clock := entryAt(feeds, c).Clock; !slices.Equal(clock, []int{1, 1, 1}) {
			t.Fatalf("an entry that knows another one by way of a third has the clock %v", clock)
		}
		checkJoinSees(t, feeds, c, a, true)
		checkJoinSees(t, feeds, a, c, false)
		checkJoinOrder(t, feeds, []impl.Ref{a, b, c})
		checkJoinStable(t, feeds, 1)
		// It must know it: the same entries are invalid if it does not.
		checkJoinsRefused(t, withCount(feeds, c, a.Writer, 0))
	}
}

// What is known by way of the previous entry of the writer is known, too, and so is what this one knows by way of others.
func TestEntriesThatAreKnownByWayOfThePreviousOne(t *testing.T) {
	for _, turns := range [][]int{{0, 1, 2}, {0, 2, 1}, {1, 0, 2}, {1, 2, 0}, {2, 0, 1}, {2, 1, 0}} {
		none := []int{0, 0, 0}
		feeds := feedsOf(nil, nil, nil)
		for _, writer := range turns {
			feeds = mustAppend(t, feeds, writer, allKnown(feeds), 1, 10)
		}
		for _, writer := range turns {
			last := impl.Ref{Writer: writer, Index: 1}
			want := withMember(entryAt(feeds, impl.Ref{Writer: writer}).Clock, writer, 2)
			further := mustAppend(t, feeds, writer, none, 2, 20)
			if clock := entryAt(further, last).Clock; !slices.Equal(clock, want) {
				t.Fatalf("the second entry of %d of %v has the clock %v, not %v", writer, further, clock, want)
			}
			checkJoinRules(t, further)
		}
	}
}

func TestEntryThatKnowsAllOthers(t *testing.T) {
	for _, feeds := range fewJoins() {
		for writer, entries := range feeds {
			if len(entries) == impl.MaxEntries {
				continue
			}
			last := impl.Ref{Writer: writer, Index: len(entries)}
			further := mustAppend(t, feeds, writer, allKnown(feeds), 6, 60)
			for _, place := range placesOf(feeds) {
				checkJoinSees(t, further, last, place, true)
				checkJoinSees(t, further, place, last, false)
			}
			if clock := entryAt(further, last).Clock; !slices.Equal(clock, allKnown(further)) {
				t.Fatalf("an entry of %d that knows all of %v has the clock %v", writer, feeds, clock)
			}
			checkJoinRules(t, further)
		}
	}
}

func TestKnownNumberOfTheWriterItselfHasNoEffect(t *testing.T) {
	eachAppend(fewJoins(), func(feeds [][]impl.Entry, writer int, known []int) {
		want := mustAppend(t, feeds, writer, known, 4, 44)
		for number := range len(feeds[writer]) + 1 {
			checkJoinAppend(t, feeds, writer, withMember(known, writer, number), 4, 44, want, true)
		}
		checkJoinAppend(t, feeds, writer, withMember(known, writer, -1), 4, 44, nil, false)
		checkJoinAppend(t, feeds, writer, withMember(known, writer, len(feeds[writer])+1), 4, 44, nil, false)
	})
}

func TestNoEntrySeesItself(t *testing.T) {
	for _, feeds := range validJoins() {
		for _, place := range placesOf(feeds) {
			checkJoinSees(t, feeds, place, place, false)
		}
	}
}

// The smaller writers wait for greater ones several times. These values are written out by the document's rules.
func TestOrdersInWhichTheSmallerWriterWaits(t *testing.T) {
	// Writer 0 waits for writer 2, which waits for writer 1.
	checkJoinOrder(t, feedsOf([][]int{{1, 1, 1}}, [][]int{{0, 1, 0}}, [][]int{{0, 1, 1}}),
		[]impl.Ref{{Writer: 1}, {Writer: 2}, {Writer: 0}})
	// Writer 0 waits twice for writer 1 only, so writer 2 is the last one.
	checkJoinOrder(t, feedsOf([][]int{{1, 1, 0}, {2, 2, 0}}, [][]int{{0, 1, 0}, {0, 2, 0}}, [][]int{{0, 0, 1}}),
		[]impl.Ref{{Writer: 1, Index: 0}, {Writer: 0, Index: 0}, {Writer: 1, Index: 1}, {Writer: 0, Index: 1}, {Writer: 2, Index: 0}})
	// Writer 0 waits for the last entry of writer 2, before which writer 1 has its turn.
	checkJoinOrder(t, feedsOf([][]int{{1, 0, 2}}, [][]int{{0, 1, 0}, {0, 2, 1}}, [][]int{{0, 0, 1}, {0, 0, 2}}),
		[]impl.Ref{{Writer: 1, Index: 0}, {Writer: 2, Index: 0}, {Writer: 1, Index: 1}, {Writer: 2, Index: 1}, {Writer: 0, Index: 0}})
	// Writer 1 waits for writer 2, and writer 0 does not.
	checkJoinOrder(t, feedsOf([][]int{{1, 0, 0}, {2, 1, 1}}, [][]int{{0, 1, 1}}, [][]int{{0, 0, 1}}),
		[]impl.Ref{{Writer: 0, Index: 0}, {Writer: 2, Index: 0}, {Writer: 1, Index: 0}, {Writer: 0, Index: 1}})
	// The writers wait for each other by turns, backward.
	feeds, want := feedsOf(nil, nil, nil), []impl.Ref{}
	for index := range impl.MaxEntries {
		for _, writer := range []int{2, 1, 0} {
			feeds = mustAppend(t, feeds, writer, allKnown(feeds), 1, 1)
			want = append(want, impl.Ref{Writer: writer, Index: index})
			checkJoinOrder(t, feeds, want)
		}
	}
}

// None is stable, the first ones are, and all but the last ones of two writers, which are as many as there can be: of three writers one has the last entry, which the others do not know. These values are written out by the document's rules.
func TestStablePlaces(t *testing.T) {
	checkJoinStable(t, feedsOf(nil, nil, nil), 0)
	checkJoinStable(t, feedsOf([][]int{{1, 0, 0}}, [][]int{{0, 1, 0}}, [][]int{{0, 0, 1}}), 0)
	checkJoinStable(t, feedsOf([][]int{{1, 0, 0}}, [][]int{{1, 1, 0}}, nil), 0)
	checkJoinStable(t, feedsOf([][]int{{1, 0, 0}}, [][]int{{1, 1, 0}}, [][]int{{0, 0, 1}}), 0)
	checkJoinStable(t, feedsOf([][]int{{1, 0, 0}}, [][]int{{1, 1, 0}}, [][]int{{1, 0, 1}}), 1)
	checkJoinStable(t, feedsOf([][]int{{1, 0, 0}, {2, 0, 0}}, [][]int{{2, 1, 0}}, [][]int{{1, 0, 1}}), 1)
	checkJoinStable(t, feedsOf([][]int{{1, 0, 0}, {2, 0, 0}}, [][]int{{2, 1, 0}}, [][]int{{2, 0, 1}}), 2)
	// The entry of writer 1 is known to all by way of writer 0, and the last one of writer 0 is not known.
	checkJoinStable(t, feedsOf([][]int{{1, 1, 0}, {2, 1, 0}}, [][]int{{0, 1, 0}}, [][]int{{1, 1, 1}}), 1)
	// Only the entry of writer 2 is stable, but those of writer 1 before it will not move either.
	checkJoinStable(t, feedsOf([][]int{{1, 0, 1}}, [][]int{{0, 1, 0}, {0, 2, 0}, {0, 3, 1}}, [][]int{{0, 0, 1}}), 3)
	feeds := feedsOf(nil, nil, nil)
	for many := range impl.Writers * impl.MaxEntries {
		checkJoinStable(t, feeds, max(many-2, 0))
		feeds = mustAppend(t, feeds, many%impl.Writers, allKnown(feeds), 9, 99)
	}
	checkJoinStable(t, feeds, 22)
}

// Only what each last entry of the other writers sees is stable: earlier ones of their entries do not count.
func TestStableEntriesAreThoseOfTheLeastKnowledge(t *testing.T) {
	for first := range impl.MaxEntries + 1 {
		for second := range impl.MaxEntries + 1 {
			feeds := feedsOf(nil, nil, nil)
			for range impl.MaxEntries {
				feeds = mustAppend(t, feeds, 0, []int{0, 0, 0}, 1, 1)
			}
			feeds = mustAppend(t, feeds, 1, []int{first, 0, 0}, 1, 1)
			feeds = mustAppend(t, feeds, 2, []int{second, 0, 0}, 1, 1)
			checkJoinStable(t, feeds, min(first, second))
			checkJoinStable(t, mustAppend(t, feeds, 1, []int{8, 0, 0}, 1, 1), second)
			checkJoinStable(t, mustAppend(t, feeds, 2, []int{8, 0, 0}, 1, 1), first)
			checkJoinRules(t, feeds)
		}
	}
}

func TestJoiningOfEdgeKeysAndValues(t *testing.T) {
	for _, feeds := range fewJoins() {
		for _, place := range placesOf(feeds) {
			for _, key := range []int{0, 9} {
				for _, value := range []int{0, 99} {
					checkJoinValid(t, withEntry(feeds, place, func(e *impl.Entry) { e.Key, e.Value = key, value }), true)
				}
			}
		}
	}
}

// Neither keys nor values have an effect on what is seen, on the order and on what is stable.
func TestKeysAndValuesDoNotOrderEntries(t *testing.T) {
	random := rand.New(rand.NewSource(47))
	for _, feeds := range validJoins() {
		other := cloneJoins(feeds)
		for _, place := range placesOf(feeds) {
			other[place.Writer][place.Index].Key = random.Intn(10)
			other[place.Writer][place.Index].Value = random.Intn(100)
		}
		checkJoinOrder(t, other, impl.JoinOrder(feeds))
		checkJoinStable(t, other, impl.JoinStable(feeds))
	}
}

func TestJoiningOfFewerOrMoreLists(t *testing.T) {
	checkJoinsRefused(t, nil)
	for many := range 30 {
		if many != impl.Writers {
			checkJoinsRefused(t, make([][]impl.Entry, many))
		}
	}
	for _, feeds := range validJoins() {
		checkJoinsRefused(t, append(cloneJoins(feeds), nil))
		checkJoinsRefused(t, append(cloneJoins(feeds), []impl.Entry{{Clock: []int{0, 0, 1}}}))
		checkJoinsRefused(t, append(cloneJoins(feeds), []impl.Entry{{Clock: []int{0, 0, 0, 1}}}))
		for many := range impl.Writers {
			checkJoinsRefused(t, feeds[:many])
		}
		checkJoinsRefused(t, feeds[1:])
	}
}

// Clocks of as many numbers as there are lists do not make them valid.
func TestJoiningOfFewerOrMoreListsWithFittingClocks(t *testing.T) {
	checkJoinsRefused(t, feedsOf([][]int{{1}}))
	checkJoinsRefused(t, feedsOf([][]int{{1, 0}}, [][]int{{1, 1}}))
	checkJoinsRefused(t, feedsOf([][]int{{1, 0, 0}}, [][]int{{1, 1, 0}}))
	checkJoinsRefused(t, feedsOf([][]int{{1, 0, 0, 0}}, [][]int{{1, 1, 0, 0}}, nil, nil))
	checkJoinsRefused(t, feedsOf([][]int{{1, 0, 0, 0}}, [][]int{{0, 1, 0, 0}}, [][]int{{0, 0, 1, 0}}, [][]int{{0, 0, 0, 1}}))
	checkJoinsRefused(t, feedsOf([][]int{{1, 0, 0}}, [][]int{{0, 1, 0}}, [][]int{{0, 0, 1}}, nil))
}

// The entries beyond MaxEntries are like those before: that they are too many is the only reason to refuse.
func TestJoiningOfTooManyEntries(t *testing.T) {
	for writer := range impl.Writers {
		for _, many := range []int{9, 10, 16, 24, 255, 256, 257, 1000} {
			clocks := make([][][]int, impl.Writers)
			for index := range many {
				clocks[writer] = append(clocks[writer], withMember([]int{0, 0, 0}, writer, index+1))
			}
			feeds := feedsOf(clocks...)
			for place := range feeds[writer] {
				feeds[writer][place].Value = 1
				feeds[writer][place].Key = 1
			}
			checkJoinsRefused(t, feeds)
			feeds[writer] = feeds[writer][:impl.MaxEntries]
			checkJoinValid(t, feeds, true)
		}
	}
	for _, feeds := range longJoins() {
		for writer, entries := range feeds {
			if len(entries) == impl.MaxEntries {
				checkJoinsRefused(t, withLast(feeds, writer, impl.Entry{Clock: withMember(allKnown(feeds), writer, 9), Key: 1, Value: 1}))
				checkJoinsRefused(t, withLast(feeds, writer, impl.Entry{Clock: withMember(entries[7].Clock, writer, 9), Key: 1, Value: 1}))
			}
		}
	}
}

func TestClocksWithFewerOrMoreNumbers(t *testing.T) {
	for _, feeds := range fewJoins() {
		for _, place := range placesOf(feeds) {
			clock := entryAt(feeds, place).Clock
			for _, wrong := range [][]int{nil, {}, clock[:1], clock[:2], clock[1:], append(slices.Clone(clock), 0), append(slices.Clone(clock), 1), append([]int{0}, clock...), slices.Repeat(clock, 2)} {
				checkJoinsRefused(t, withEntry(feeds, place, func(e *impl.Entry) { e.Clock = wrong }))
			}
		}
	}
}

// Each number of a clock becomes any other one, near and far. A part of the changes is harmless: the entry knows less of what no other one needs, or more.
func TestClocksWithAnotherNumber(t *testing.T) {
	harmless, wrong := 0, 0
	for _, feeds := range fewJoins() {
		for number, place := range placesOf(feeds) {
			for writer, entries := range feeds {
				for count := -1; count <= len(entries)+1; count++ {
					changed := withCount(feeds, place, writer, count)
					valid := plainJoinValid(changed)
					checkJoinValid(t, changed, valid)
					if valid {
						harmless++
					} else if wrong++; wrong%20 == 0 {
						checkJoinsRefused(t, changed)
					}
				}
				for _, count := range []int{-2, -8, 9, 10, 256, 1 << 32, -1 << 32, math.MinInt32, math.MaxInt32, math.MinInt, math.MaxInt} {
					if number%3 == 0 {
						checkJoinsRefused(t, withCount(feeds, place, writer, count))
					}
				}
			}
		}
	}
	if harmless < 1000 || wrong < 5000 {
		t.Errorf("only %d changes are harmless, and %d are not", harmless, wrong)
	}
}

// The number of an entry for its own writer is its index plus 1, and neither its index, the number of all entries, nor 0.
func TestClocksWithAWrongNumberForTheirOwnWriter(t *testing.T) {
	for _, feeds := range fewJoins() {
		for _, place := range placesOf(feeds) {
			for count := range impl.MaxEntries + 2 {
				if count != place.Index+1 {
					checkJoinsRefused(t, withCount(feeds, place, place.Writer, count))
				}
			}
		}
	}
	// No other entry is there, so that the wrong number is the only reason to refuse.
	checkJoinsRefused(t, feedsOf([][]int{{0, 0, 0}}, nil, nil))
	checkJoinsRefused(t, feedsOf(nil, [][]int{{0, 0, 0}}, nil))
	checkJoinsRefused(t, feedsOf(nil, nil, [][]int{{0, 0, 2}, {0, 0, 2}}))
	checkJoinsRefused(t, feedsOf([][]int{{1, 0, 0}, {1, 0, 0}}, nil, nil))
}

// These clocks count existing entries, with the right numbers for their own writers, but one entry sees another one that knows more.
func TestEntriesThatDoNotKnowWhatThoseKnowThatTheySee(t *testing.T) {
	// Writer 2 sees the entry of writer 1, which knows that of writer 0.
	checkJoinsRefused(t, feedsOf([][]int{{1, 0, 0}}, [][]int{{1, 1, 0}}, [][]int{{0, 1, 1}}))
	checkJoinsRefused(t, feedsOf([][]int{{1, 0, 0}, {2, 0, 0}}, [][]int{{2, 1, 0}}, [][]int{{1, 1, 1}}))
	checkJoinsRefused(t, feedsOf([][]int{{1, 1, 0}}, [][]int{{0, 1, 1}}, [][]int{{0, 0, 1}}))
	checkJoinsRefused(t, feedsOf([][]int{{1, 0, 1}}, [][]int{{0, 1, 0}}, [][]int{{0, 1, 1}}))
	// The second entry of a writer knows less than its first one.
	checkJoinsRefused(t, feedsOf([][]int{{1, 1, 0}, {2, 0, 0}}, [][]int{{0, 1, 0}}, nil))
	checkJoinsRefused(t, feedsOf(nil, [][]int{{0, 1, 2}, {0, 2, 1}}, [][]int{{0, 0, 1}, {0, 0, 2}}))
	checkJoinsRefused(t, feedsOf([][]int{{1, 0, 0}}, nil, [][]int{{1, 0, 1}, {1, 0, 2}, {0, 0, 3}}))
	// It knows the last one of another writer, but not what an earlier one of it knows.
	checkJoinsRefused(t, feedsOf([][]int{{1, 0, 1}, {2, 0, 1}}, [][]int{{2, 1, 0}}, [][]int{{0, 0, 1}}))
}

func TestEntriesThatSeeEachOther(t *testing.T) {
	checkJoinsRefused(t, feedsOf([][]int{{1, 1, 0}}, [][]int{{1, 1, 0}}, nil))
	checkJoinsRefused(t, feedsOf([][]int{{1, 0, 1}}, nil, [][]int{{1, 0, 1}}))
	checkJoinsRefused(t, feedsOf(nil, [][]int{{0, 1, 1}}, [][]int{{0, 1, 1}}))
	checkJoinsRefused(t, feedsOf([][]int{{1, 1, 1}}, [][]int{{1, 1, 1}}, [][]int{{1, 1, 1}}))
	// In a ring, where each one knows the next one, all know all.
	checkJoinsRefused(t, feedsOf([][]int{{1, 1, 0}}, [][]int{{0, 1, 1}}, [][]int{{1, 0, 1}}))
	// An entry sees another one that sees it by way of its next one, which it must know.
	checkJoinsRefused(t, feedsOf([][]int{{1, 2, 0}, {2, 2, 0}}, [][]int{{0, 1, 0}, {1, 2, 0}}, nil))
	for _, feeds := range fewJoins() {
		for _, a := range placesOf(feeds) {
			for _, b := range placesOf(feeds) {
				if a.Writer == b.Writer || entryAt(feeds, a).Clock[b.Writer] <= b.Index {
					continue
				}
				// The entry that is seen now knows all that the other one knows, and so this one itself.
				both := cloneJoins(feeds)
				copy(both[b.Writer][b.Index].Clock, entryAt(feeds, a).Clock)
				both[b.Writer][b.Index].Clock[b.Writer] = b.Index + 1
				checkJoinsRefused(t, both)
			}
		}
	}
}

func TestEntriesWithInvalidKeysOrValues(t *testing.T) {
	for _, feeds := range fewJoins() {
		for _, place := range placesOf(feeds) {
			for _, key := range notEntryKeys {
				checkJoinValid(t, withEntry(feeds, place, func(e *impl.Entry) { e.Key = key }), false)
			}
			for _, value := range notEntryValues {
				checkJoinValid(t, withEntry(feeds, place, func(e *impl.Entry) { e.Value = value }), false)
			}
			checkJoinsRefused(t, withEntry(feeds, place, func(e *impl.Entry) { e.Key = -1 }))
			checkJoinsRefused(t, withEntry(feeds, place, func(e *impl.Entry) { e.Key = 10 }))
			checkJoinsRefused(t, withEntry(feeds, place, func(e *impl.Entry) { e.Value = -1 }))
			checkJoinsRefused(t, withEntry(feeds, place, func(e *impl.Entry) { e.Value = 100 }))
		}
	}
}

// All clocks of few entries are tried whose numbers for their own writers are right.
func TestJoinValidOfAllClocksOfFewEntries(t *testing.T) {
	valid, invalid := 0, 0
	for _, many := range [][]int{{1, 1, 1}, {2, 1, 0}, {0, 2, 1}, {1, 0, 2}, {2, 1, 1}, {1, 2, 1}, {1, 1, 2}, {2, 2, 1}} {
		clocks := make([][][]int, impl.Writers)
		for writer, count := range many {
			for index := range count {
				clocks[writer] = append(clocks[writer], withMember([]int{0, 0, 0}, writer, index+1))
			}
		}
		feeds := feedsOf(clocks...)
		eachClocks(feeds, placesOf(feeds), func() {
			want := plainJoinValid(feeds)
			checkJoinValid(t, feeds, want)
			if want {
				valid++
				checkJoinOrder(t, feeds, plainJoinOrder(feeds))
				checkJoinStable(t, feeds, plainJoinStable(feeds))
			} else {
				invalid++
			}
		})
	}
	if valid < 300 || invalid < 5000 {
		t.Errorf("only %d of all clocks are valid, and %d are not", valid, invalid)
	}
}

// eachClocks calls a function with all clocks of the entries at these places that count existing entries, with the numbers for their own writers as they are.
func eachClocks(feeds [][]impl.Entry, places []impl.Ref, call func()) {
	if len(places) == 0 {
		call()
		return
	}
	clock := entryAt(feeds, places[0]).Clock
	first, second := (places[0].Writer+1)%impl.Writers, (places[0].Writer+2)%impl.Writers
	for clock[first] = 0; clock[first] <= len(feeds[first]); clock[first]++ {
		for clock[second] = 0; clock[second] <= len(feeds[second]); clock[second]++ {
			eachClocks(feeds, places[1:], call)
		}
	}
}

func TestJoinAppendOfWritersThatDoNotExist(t *testing.T) {
	for _, feeds := range validJoins() {
		for _, writer := range notWriters {
			checkJoinAppend(t, feeds, writer, []int{0, 0, 0}, 1, 1, nil, false)
			checkJoinAppend(t, feeds, writer, allKnown(feeds), 1, 1, nil, false)
		}
	}
}

func TestJoinAppendOfInvalidKnownNumbers(t *testing.T) {
	for _, feeds := range validJoins() {
		for writer := range impl.Writers {
			for _, known := range notKnown(feeds) {
				checkJoinAppend(t, feeds, writer, known, 1, 1, nil, false)
			}
		}
	}
}

func TestJoinAppendOfInvalidKeysOrValues(t *testing.T) {
	for _, feeds := range fewJoins() {
		for writer := range impl.Writers {
			for _, key := range notEntryKeys {
				for _, value := range []int{0, 9, 99} {
					checkJoinAppend(t, feeds, writer, allKnown(feeds), key, value, nil, false)
				}
			}
			for _, value := range notEntryValues {
				for _, key := range []int{0, 5, 9} {
					checkJoinAppend(t, feeds, writer, allKnown(feeds), key, value, nil, false)
				}
			}
		}
	}
}

func TestJoinSeesOfPlacesThatDoNotExist(t *testing.T) {
	for _, feeds := range fewJoins() {
		nowhere := notPlaces(feeds)
		for number, a := range nowhere {
			checkJoinSees(t, feeds, a, a, false)
			checkJoinSees(t, feeds, a, nowhere[len(nowhere)-1-number], false)
			for _, b := range placesOf(feeds) {
				checkJoinSees(t, feeds, a, b, false)
				checkJoinSees(t, feeds, b, a, false)
			}
		}
	}
}

// mixedJoins returns entries that are valid in many cases, and with a few other numbers, lists or clocks otherwise.
func mixedJoins(random *rand.Rand) [][]impl.Entry {
	feeds := randomJoins(random)
	for range random.Intn(3) {
		places := placesOf(feeds)
		if len(places) == 0 {
			break
		}
		place := places[random.Intn(len(places))]
		feeds = withEntry(feeds, place, func(e *impl.Entry) {
			switch random.Intn(6) {
			case 0:
				e.Key = random.Intn(13) - 1
			case 1:
				e.Value = random.Intn(102) - 1
			case 2:
				e.Clock = e.Clock[:random.Intn(len(e.Clock)+1)]
			default:
				if len(e.Clock) > 0 {
					e.Clock[random.Intn(len(e.Clock))] += random.Intn(5) - 2
				}
			}
		})
	}
	if random.Intn(20) == 0 {
		feeds = feeds[:random.Intn(impl.Writers)]
	}
	return feeds
}

func TestJoiningFollowsItsRules(t *testing.T) {
	random := rand.New(rand.NewSource(48))
	valid, rounds := 0, 3000
	for range rounds {
		feeds := mixedJoins(random)
		checkJoinValid(t, feeds, plainJoinValid(feeds))
		checkJoinOrder(t, feeds, plainJoinOrder(feeds))
		checkJoinStable(t, feeds, plainJoinStable(feeds))
		for range 5 {
			writer, key, value := random.Intn(5)-1, random.Intn(14)-2, random.Intn(106)-3
			known := []int{random.Intn(9), random.Intn(9), random.Intn(9)}
			if random.Intn(2) == 0 && len(feeds) == impl.Writers {
				known = allKnown(feeds)
			}
			want, wantOk := plainAppend(feeds, writer, known, key, value)
			checkJoinAppend(t, feeds, writer, known, key, value, want, wantOk)
		}
		if plainJoinValid(feeds) {
			valid++
		}
	}
	if valid < rounds/3 || valid > rounds*9/10 {
		t.Errorf("%d of %d arguments are valid", valid, rounds)
	}
}
