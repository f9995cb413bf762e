package tests

import (
	"math"
	"math/rand"
	"slices"
	"testing"

	"loop.example/feedswarm/impl"
)

// plainViewAt returns a view by the document's rule: each entry sets its key to its value, in a table of all keys.
func plainViewAt(feeds [][]impl.Entry, n int) ([]impl.Pair, bool) {
	view := []impl.Pair{}
	order := plainJoinOrder(feeds)
	if !plainJoinValid(feeds) || n < 0 || n > len(order) {
		return view, false
	}
	values := map[int]int{}
	for _, place := range order[:n] {
		values[entryAt(feeds, place).Key] = entryAt(feeds, place).Value
	}
	for key := range 10 {
		if value, set := values[key]; set {
			view = append(view, impl.Pair{Key: key, Value: value})
		}
	}
	return view, true
}

// plainViewGet returns the value of a key by the document's rule, with all pairs of a view compared with all others.
func plainViewGet(view []impl.Pair, key int) (int, bool) {
	for place, pair := range view {
		for _, later := range view[place+1:] {
			if pair.Key >= later.Key {
				return 0, false
			}
		}
	}
	for _, pair := range view {
		if pair.Key == key {
			return pair.Value, true
		}
	}
	return 0, false
}

// plainViewGrows judges by the document's rule whether entries have grown, with the entries at all previous places.
func plainViewGrows(before [][]impl.Entry, now [][]impl.Entry) bool {
	if !plainJoinValid(before) || !plainJoinValid(now) {
		return false
	}
	for _, place := range placesOf(before) {
		if !plainExists(now, place) || !equalEntries(entryAt(before, place), entryAt(now, place)) {
			return false
		}
	}
	return true
}

// plainViewKept returns the number of kept entries by the document's rule: the longest beginning that both orders have.
func plainViewKept(before [][]impl.Entry, now [][]impl.Entry) int {
	if !plainViewGrows(before, now) {
		return -1
	}
	previous, present := plainJoinOrder(before), plainJoinOrder(now)
	kept := 0
	for many := range min(len(previous), len(present)) + 1 {
		if slices.Equal(previous[:many], present[:many]) {
			kept = many
		}
	}
	return kept
}

// checkViewRules fails the test if ViewAt does not follow the document's rules for these entries.
func checkViewRules(t *testing.T, feeds [][]impl.Entry) {
	t.Helper()
	for n := range manyEntries(feeds) + 1 {
		want, wantOk := plainViewAt(feeds, n)
		checkViewAt(t, feeds, n, want, wantOk)
	}
	for _, n := range notLengths(manyEntries(feeds)) {
		checkViewAt(t, feeds, n, nil, false)
	}
}

// checkGrowthRules fails the test if a function does not follow the document's rules for entries, before and now.
func checkGrowthRules(t *testing.T, before [][]impl.Entry, now [][]impl.Entry) {
	t.Helper()
	checkViewGrows(t, before, now, plainViewGrows(before, now))
	checkViewKept(t, before, now, plainViewKept(before, now))
}

// checkGetRules fails the test if ViewGet does not follow the document's rules for these pairs.
func checkGetRules(t *testing.T, view []impl.Pair) {
	t.Helper()
	for _, key := range askedKeys(view) {
		want, wantOk := plainViewGet(view, key)
		checkViewGet(t, view, key, want, wantOk)
	}
}

// entriesOfOne returns entries of one writer alone that set these pairs one after the other.
func entriesOfOne(t *testing.T, writer int, set ...impl.Pair) [][]impl.Entry {
	t.Helper()
	feeds := noEntries()
	for _, pair := range set {
		feeds = mustAppend(t, feeds, writer, []int{0, 0, 0}, pair.Key, pair.Value)
	}
	return feeds
}

// entriesByTurns returns entries of all writers, each of which knows all before, that set these pairs one after the other. The first one is that of this writer.
func entriesByTurns(t *testing.T, first int, set ...impl.Pair) [][]impl.Entry {
	t.Helper()
	feeds := noEntries()
	for number, pair := range set {
		feeds = mustAppend(t, feeds, (first+number)%impl.Writers, allKnown(feeds), pair.Key, pair.Value)
	}
	return feeds
}

func TestViewsFollowTheirRules(t *testing.T) {
	for _, feeds := range append(allViewJoins(), viewJoins()...) {
		for _, n := range []int{0, 1, manyEntries(feeds) / 2, manyEntries(feeds) - 1, manyEntries(feeds)} {
			want, wantOk := plainViewAt(feeds, n)
			checkViewAt(t, feeds, n, want, wantOk)
		}
	}
	for _, feeds := range fewJoins() {
		checkViewRules(t, feeds)
	}
}

func TestGrowthFollowsItsRules(t *testing.T) {
	for number, g := range growths() {
		if number%3 == 0 {
			checkGrowthRules(t, g.before, g.now)
			checkGrowthRules(t, g.now, g.before)
		}
	}
}

// All entries of up to three are compared with all others: those that have grown, and those that have not.
func TestGrowthOfAllShortEntries(t *testing.T) {
	grown, other := 0, 0
	lists := shortJoins(3)
	for _, before := range lists {
		for _, now := range lists {
			checkGrowthRules(t, before, now)
			if plainViewGrows(before, now) {
				grown++
			} else {
				other++
			}
		}
	}
	if grown < 200 || other < 2000 {
		t.Errorf("only %d entries have grown, and %d have not", grown, other)
	}
}

func TestViewsOfNoEntries(t *testing.T) {
	none := noEntries()
	checkViewRules(t, none)
	checkViewAt(t, none, 0, nil, true)
	checkViewAt(t, none, 1, nil, false)
	checkViewAt(t, none, -1, nil, false)
	checkViewKept(t, none, none, 0)
	checkViewGrows(t, none, none, true)
	for _, feeds := range validJoins() {
		checkViewKept(t, none, feeds, 0)
		checkViewGrows(t, none, feeds, true)
		if manyEntries(feeds) > 0 {
			checkNotGrown(t, feeds, none)
		}
	}
}

// Each pair is set by one entry alone.
func TestViewsOfOneEntry(t *testing.T) {
	for writer := range impl.Writers {
		for key := range 10 {
			for _, value := range []int{0, 1, 50, 98, 99} {
				pair := impl.Pair{Key: key, Value: value}
				feeds := entriesOfOne(t, writer, pair)
				checkViewAt(t, feeds, 0, nil, true)
				checkViewAt(t, feeds, 1, []impl.Pair{pair}, true)
				checkViewAt(t, feeds, 2, nil, false)
				checkViewAt(t, feeds, -1, nil, false)
				checkViewGet(t, mustView(t, feeds, 1), key, value, true)
			}
		}
	}
}

// One key is set twice: by one writer, and by two of which the second one is the smaller or the greater one. The second value counts.
func TestKeysThatAreSetTwice(t *testing.T) {
	for key := range 10 {
		for _, values := range [][]int{{10, 20}, {20, 10}, {0, 99}, {99, 0}, {0, 0}, {7, 7}, {1, 0}, {98, 99}} {
			first, second := impl.Pair{Key: key, Value: values[0]}, impl.Pair{Key: key, Value: values[1]}
			for a := range impl.Writers {
				for b := range impl.Writers {
					feeds := entriesOfOne(t, a, first)
					feeds = mustAppend(t, feeds, b, allKnown(feeds), second.Key, second.Value)
					checkViewAt(t, feeds, 1, []impl.Pair{first}, true)
					checkViewAt(t, feeds, 2, []impl.Pair{second}, true)
					checkViewRules(t, feeds)
				}
			}
		}
	}
}

// Two entries that know nothing of each other set one key. The order decides, and so that of the greater writer counts, whoever was the first to append.
func TestKeysThatAreSetTwiceAtTheSameTime(t *testing.T) {
	none := []int{0, 0, 0}
	for _, writers := range [][]int{{0, 1}, {0, 2}, {1, 2}} {
		smaller, greater := writers[0], writers[1]
		feeds := mustAppend(t, mustAppend(t, noEntries(), smaller, none, 4, 10), greater, none, 4, 20)
		other := mustAppend(t, mustAppend(t, noEntries(), greater, none, 4, 20), smaller, none, 4, 10)
		for _, list := range [][][]impl.Entry{feeds, other} {
			checkViewAt(t, list, 1, []impl.Pair{{Key: 4, Value: 10}}, true)
			checkViewAt(t, list, 2, []impl.Pair{{Key: 4, Value: 20}}, true)
		}
	}
}

// Another key is set before, between and behind the two entries that set one key, and it is smaller or greater.
func TestKeysThatAreSetTwiceBesideOthers(t *testing.T) {
	for _, other := range []int{0, 3, 5, 9} {
		a, b, c := impl.Pair{Key: 4, Value: 1}, impl.Pair{Key: 4, Value: 2}, impl.Pair{Key: other, Value: 3}
		want := []impl.Pair{b, c}
		if other < 4 {
			want = []impl.Pair{c, b}
		}
		for writer := range impl.Writers {
			for _, set := range [][]impl.Pair{{c, a, b}, {a, c, b}, {a, b, c}} {
				checkViewAt(t, entriesOfOne(t, writer, set...), 3, want, true)
				checkViewAt(t, entriesByTurns(t, writer, set...), 3, want, true)
				checkViewRules(t, entriesByTurns(t, writer, set...))
			}
		}
	}
}

// One key is set by all entries, up to MaxEntries of each writer, and the view always has the last value.
func TestKeysThatAreSetMoreOften(t *testing.T) {
	for _, key := range []int{0, 4, 9} {
		for first := range impl.Writers {
			set := []impl.Pair{}
			for number := range impl.Writers * impl.MaxEntries {
				set = append(set, impl.Pair{Key: key, Value: 99 - 4*number})
			}
			feeds := entriesByTurns(t, first, set...)
			for n, pair := range set {
				checkViewAt(t, feeds, n+1, []impl.Pair{pair}, true)
			}
			alone := entriesOfOne(t, first, set[:impl.MaxEntries]...)
			for n, pair := range set[:impl.MaxEntries] {
				checkViewAt(t, alone, n+1, []impl.Pair{pair}, true)
			}
			same := entriesByTurns(t, first, slices.Repeat(set[:1], impl.Writers*impl.MaxEntries)...)
			for n := range set {
				checkViewAt(t, same, n+1, set[:1], true)
			}
		}
	}
}

// All ten keys are set, ascending, descending and mixed, and then again.
func TestViewsOfAllKeys(t *testing.T) {
	random := rand.New(rand.NewSource(55))
	for round := range 60 {
		keys := []int{0, 1, 2, 3, 4, 5, 6, 7, 8, 9}
		switch {
		case round == 1:
			slices.Reverse(keys)
		case round > 1:
			random.Shuffle(len(keys), func(a, b int) { keys[a], keys[b] = keys[b], keys[a] })
		}
		set := []impl.Pair{}
		for number, key := range slices.Concat(keys, keys) {
			set = append(set, impl.Pair{Key: key, Value: (number*5 + round) % 100})
		}
		feeds := entriesByTurns(t, round%impl.Writers, set...)
		byKey := func(a, b impl.Pair) int { return a.Key - b.Key }
		checkViewAt(t, feeds, 10, slices.SortedFunc(slices.Values(set[:10]), byKey), true)
		checkViewAt(t, feeds, 20, slices.SortedFunc(slices.Values(set[10:]), byKey), true)
		checkViewRules(t, feeds)
	}
}

func TestViewsOfEdgePairs(t *testing.T) {
	a, b, c, d := impl.Pair{Key: 0, Value: 0}, impl.Pair{Key: 9, Value: 99}, impl.Pair{Key: 0, Value: 99}, impl.Pair{Key: 9, Value: 0}
	feeds := entriesByTurns(t, 0, b, a, d, c)
	checkViewAt(t, feeds, 1, []impl.Pair{b}, true)
	checkViewAt(t, feeds, 2, []impl.Pair{a, b}, true)
	checkViewAt(t, feeds, 3, []impl.Pair{a, d}, true)
	checkViewAt(t, feeds, 4, []impl.Pair{c, d}, true)
	checkViewGet(t, []impl.Pair{a, b}, 0, 0, true)
	checkViewGet(t, []impl.Pair{a, b}, 9, 99, true)
	checkViewGet(t, []impl.Pair{c, d}, 9, 0, true)
}

func TestViewsOfLengthsThatDoNotExist(t *testing.T) {
	for _, feeds := range append(allViewJoins(), noEntries()) {
		many := manyEntries(feeds)
		for _, n := range notLengths(many) {
			checkViewAt(t, feeds, n, nil, false)
		}
		if _, ok := impl.ViewAt(feeds, many); !ok {
			t.Fatalf("ViewAt of %v and %d fails", feeds, many)
		}
	}
	// As many entries as there can be, which is more than there are keys.
	full := entriesByTurns(t, 1, slices.Repeat(viewWithKeys(2), 24)...)
	for n := -3; n <= 30; n++ {
		if _, ok := impl.ViewAt(full, n); ok != (n >= 0 && n <= 24) {
			t.Fatalf("ViewAt of 24 entries and %d returns %v", n, ok)
		}
	}
}

func TestViewsOfInvalidEntries(t *testing.T) {
	for _, feeds := range invalidJoins() {
		checkJoinValid(t, feeds, false)
		for n := -1; n <= 26; n++ {
			checkViewAt(t, feeds, n, nil, false)
		}
		for _, n := range notLengths(manyEntries(feeds)) {
			checkViewAt(t, feeds, n, nil, false)
		}
	}
}

// Invalid entries have not grown, and nothing has grown from them: not even they themselves.
func TestGrowthOfInvalidEntries(t *testing.T) {
	lists, refused := fewJoins(), invalidJoins()
	for number, invalid := range refused {
		checkNotGrown(t, invalid, invalid)
		checkNotGrown(t, invalid, cloneJoins(invalid))
		for place, valid := range lists {
			if (place+number)%7 == 0 || manyEntries(valid) == 0 {
				checkNotGrown(t, invalid, valid)
				checkNotGrown(t, valid, invalid)
			}
		}
		checkNotGrown(t, invalid, refused[(number+1)%len(refused)])
	}
}

// The entries are the same but for something invalid, in an old entry, in a new one, or beside them: this is the only reason to refuse.
func TestGrowthOfEntriesThatBecomeInvalid(t *testing.T) {
	for _, g := range fewGrowths() {
		for _, place := range placesOf(g.now) {
			for _, change := range []func(e *impl.Entry){
				func(e *impl.Entry) { e.Key = 10 },
				func(e *impl.Entry) { e.Value = -1 },
				func(e *impl.Entry) { e.Clock = nil },
				func(e *impl.Entry) { e.Clock = append(e.Clock, 0) },
				func(e *impl.Entry) { e.Clock[place.Writer]++ },
			} {
				checkNotGrown(t, g.before, withEntry(g.now, place, change))
				if plainExists(g.before, place) {
					checkNotGrown(t, withEntry(g.before, place, change), g.now)
					checkNotGrown(t, withEntry(g.before, place, change), withEntry(g.now, place, change))
				}
			}
		}
		checkNotGrown(t, g.before, append(cloneJoins(g.now), nil))
		checkNotGrown(t, append(cloneJoins(g.before), nil), g.now)
		checkNotGrown(t, g.before, g.now[:2])
		checkNotGrown(t, g.before[:2], g.now)
	}
}

// What is known has to exist before, not only now: the previous entries cannot have known later ones.
func TestGrowthFromEntriesThatKnowLaterOnes(t *testing.T) {
	now := feedsOf([][]int{{1, 0, 0}}, [][]int{{1, 1, 0}}, nil)
	checkNotGrown(t, feedsOf(nil, [][]int{{1, 1, 0}}, nil), now)
	refused := 0
	for _, feeds := range fewJoins() {
		for _, many := range knownLists(feeds) {
			if before := firstOf(feeds, many); !knowOnly(before, many) && refused%7 == 0 {
				checkNotGrown(t, before, feeds)
				refused++
			} else if !knowOnly(before, many) {
				refused++
			}
		}
	}
	if refused < 1000 {
		t.Errorf("only %d lists know later entries", refused)
	}
}

// Entries that come into the order before all old ones, in the middle of them and behind them. These values are written out by the document's rules.
func TestEntriesThatComeIntoTheOrder(t *testing.T) {
	none := []int{0, 0, 0}
	before := entriesOfOne(t, 1, viewWithKeys(1, 2, 3)...)
	checkViewKept(t, before, before, 3)
	// The first entry of the smallest writer is before all of writer 1, unless it knows some of them.
	for count := range 4 {
		now := mustAppend(t, before, 0, []int{0, count, 0}, 5, 50)
		checkViewKept(t, before, now, count)
		checkViewGrows(t, before, now, true)
		checkNotGrown(t, now, before)
	}
	// That of a greater writer is behind all of writer 1, whatever it knows.
	for count := range 4 {
		now := mustAppend(t, before, 2, []int{0, count, 0}, 5, 50)
		checkViewKept(t, before, now, 3)
		checkViewGrows(t, before, now, true)
		checkNotGrown(t, now, before)
	}
	// A further entry of writer 1 itself is behind all old ones.
	checkViewKept(t, before, mustAppend(t, before, 1, none, 5, 50), 3)
	// It is before those of writer 2 if there are some, and behind those that it knows.
	both := mustAppend(t, mustAppend(t, before, 2, none, 6, 60), 2, none, 7, 70)
	checkViewKept(t, both, mustAppend(t, both, 1, none, 5, 50), 3)
	checkViewKept(t, both, mustAppend(t, both, 1, []int{0, 0, 1}, 5, 50), 4)
	checkViewKept(t, both, mustAppend(t, both, 1, []int{0, 0, 2}, 5, 50), 5)
	// Entries of several writers: that of writer 0 is the first one of them in the order.
	several := mustAppend(t, mustAppend(t, both, 1, []int{0, 0, 2}, 5, 50), 2, none, 8, 80)
	checkViewKept(t, both, several, 5)
	checkViewKept(t, both, mustAppend(t, several, 0, []int{0, 2, 0}, 9, 90), 2)
	checkViewKept(t, both, mustAppend(t, several, 0, none, 9, 90), 0)
}

// An entry comes into the order with the same key and the same value as the old one at its place: the places differ nevertheless.
func TestKeptPlacesAreNotKeptValues(t *testing.T) {
	none := []int{0, 0, 0}
	before := entriesOfOne(t, 1, impl.Pair{Key: 4, Value: 40}, impl.Pair{Key: 4, Value: 40})
	now := mustAppend(t, mustAppend(t, before, 0, none, 4, 40), 0, none, 4, 40)
	checkViewKept(t, before, now, 0)
	checkViewKept(t, before, mustAppend(t, before, 0, []int{0, 1, 0}, 4, 40), 1)
	for n := 1; n <= 2; n++ {
		checkViewAt(t, now, n, mustView(t, before, n), true)
	}
}

// New entries do not change which of two old ones is before the other. So the places are kept up to the first new entry.
func TestPlacesAreKeptUpToTheFirstNewEntry(t *testing.T) {
	none := []int{0, 0, 0}
	before := mustAppend(t, noEntries(), 1, none, 1, 10)
	before = mustAppend(t, before, 2, []int{0, 1, 0}, 2, 20)
	before = mustAppend(t, before, 0, []int{0, 1, 1}, 3, 30)
	now := mustAppend(t, before, 1, none, 4, 40)
	checkJoinOrder(t, before, []impl.Ref{{Writer: 1}, {Writer: 2}, {Writer: 0}})
	checkJoinOrder(t, now, []impl.Ref{{Writer: 1}, {Writer: 1, Index: 1}, {Writer: 2}, {Writer: 0}})
	checkViewKept(t, before, now, 1)
	moved := 0
	for _, g := range growths() {
		want := manyEntries(g.before)
		isNew := func(place impl.Ref) bool { return place.Index >= len(g.before[place.Writer]) }
		if first := slices.IndexFunc(impl.JoinOrder(g.now), isNew); first >= 0 && first < want {
			want = first
			moved++
		}
		checkViewKept(t, g.before, g.now, want)
	}
	if moved < 1000 {
		t.Errorf("only %d times old entries are behind new ones", moved)
	}
}

// Entries of all writers are appended, in each order of them.
func TestGrowthByEntriesOfSeveralWriters(t *testing.T) {
	for _, feeds := range fewJoins() {
		if slices.Max(allKnown(feeds)) == impl.MaxEntries {
			continue
		}
		for _, turns := range [][]int{{0, 1, 2}, {0, 2, 1}, {1, 0, 2}, {1, 2, 0}, {2, 0, 1}, {2, 1, 0}} {
			now := feeds
			for number, writer := range turns {
				now = mustAppend(t, now, writer, allKnown(feeds), number, number)
				checkViewGrows(t, feeds, now, true)
				// All new entries know all old ones, and so they are behind them.
				checkViewKept(t, feeds, now, manyEntries(feeds))
				checkNotGrown(t, now, feeds)
			}
			apart := feeds
			for number, writer := range turns {
				apart = mustAppend(t, apart, writer, []int{0, 0, 0}, number, number)
				checkGrowthRules(t, feeds, apart)
				checkViewGrows(t, feeds, apart, true)
			}
		}
	}
}

// One entry of a writer is missing now: the last one, which leaves valid entries, or an earlier one, which the others follow.
func TestGrowthOfEntriesOfWhichOneIsMissing(t *testing.T) {
	for _, feeds := range fewJoins() {
		order := impl.JoinOrder(feeds)
		if len(order) > 0 {
			checkViewGrows(t, withoutLast(feeds, order[len(order)-1].Writer), feeds, true)
			checkNotGrown(t, feeds, withoutLast(feeds, order[len(order)-1].Writer))
		}
		for _, place := range placesOf(feeds) {
			now := cloneJoins(feeds)
			now[place.Writer] = slices.Delete(now[place.Writer], place.Index, place.Index+1)
			checkNotGrown(t, feeds, now)
		}
	}
	// All entries of a writer are missing.
	feeds := feedsOf([][]int{{1, 0, 0}}, [][]int{{0, 1, 0}}, [][]int{{0, 0, 1}, {0, 0, 2}})
	for writer := range impl.Writers {
		now := cloneJoins(feeds)
		now[writer] = nil
		checkJoinValid(t, now, true)
		checkNotGrown(t, feeds, now)
		checkViewGrows(t, now, feeds, true)
	}
}

// A key or a value of an old entry has changed, which is the only difference, or the new entries are still there.
func TestGrowthOfEntriesOfWhichAKeyOrAValueHasChanged(t *testing.T) {
	for _, g := range fewGrowths() {
		for _, place := range placesOf(g.before) {
			for _, change := range []func(e *impl.Entry){
				func(e *impl.Entry) { e.Key = (e.Key + 1) % 10 },
				func(e *impl.Entry) { e.Key = 9 - e.Key },
				func(e *impl.Entry) { e.Value = (e.Value + 1) % 100 },
				func(e *impl.Entry) { e.Value = 99 - e.Value },
			} {
				changed := withEntry(g.before, place, change)
				checkJoinValid(t, changed, true)
				checkNotGrown(t, g.before, changed)
				checkNotGrown(t, changed, g.before)
				checkNotGrown(t, changed, g.now)
				checkNotGrown(t, g.before, withEntry(g.now, place, change))
				checkViewGrows(t, changed, withEntry(g.now, place, change), true)
			}
		}
	}
}

// A clock of an old entry has changed, and the entries are valid nevertheless. The order may even be the same.
func TestGrowthOfEntriesOfWhichAClockHasChanged(t *testing.T) {
	changes, sameOrder := 0, 0
	for _, feeds := range fewJoins() {
		for _, place := range placesOf(feeds) {
			for writer, entries := range feeds {
				for count := range len(entries) + 1 {
					changed := withCount(feeds, place, writer, count)
					if count == entryAt(feeds, place).Clock[writer] || !plainJoinValid(changed) {
						continue
					}
					checkNotGrown(t, feeds, changed)
					checkNotGrown(t, changed, feeds)
					changes++
					if slices.Equal(impl.JoinOrder(feeds), impl.JoinOrder(changed)) {
						sameOrder++
					}
				}
			}
		}
	}
	if changes < 500 || sameOrder < 250 {
		t.Errorf("only %d clocks are changed, and the order is the same %d times", changes, sameOrder)
	}
	// These differ only in one number of a clock, for each of the other writers.
	for _, clock := range [][]int{{1, 1, 0}, {1, 0, 1}, {1, 1, 1}} {
		before := feedsOf([][]int{{1, 0, 0}}, [][]int{{0, 1, 0}}, [][]int{{0, 0, 1}})
		now := feedsOf([][]int{clock}, [][]int{{0, 1, 0}}, [][]int{{0, 0, 1}})
		checkJoinValid(t, now, true)
		checkNotGrown(t, before, now)
		checkNotGrown(t, now, before)
	}
}

// The list of one writer is shorter, and that of another one is longer, so that there are as many entries or more.
func TestGrowthOfEntriesOfWhichOneListIsShorter(t *testing.T) {
	none := []int{0, 0, 0}
	for _, feeds := range fewJoins() {
		if slices.Max(allKnown(feeds)) > impl.MaxEntries-2 {
			continue
		}
		for a := range impl.Writers {
			for b := range impl.Writers {
				if a == b {
					continue
				}
				before := mustAppend(t, feeds, a, none, 1, 10)
				now := mustAppend(t, feeds, b, none, 1, 10)
				checkNotGrown(t, before, now)
				checkNotGrown(t, now, before)
				checkNotGrown(t, before, mustAppend(t, now, b, none, 1, 10))
				checkNotGrown(t, before, mustAppend(t, now, 3-a-b, none, 1, 10))
				checkViewGrows(t, before, mustAppend(t, before, b, none, 1, 10), true)
			}
		}
	}
}

// Two readers have got different entries of the same writer: neither has grown from the other.
func TestGrowthOfTwoBranches(t *testing.T) {
	eachAppend(fewJoins(), func(feeds [][]impl.Entry, writer int, known []int) {
		first := mustAppend(t, feeds, writer, known, 1, 10)
		for _, pair := range []impl.Pair{{Key: 1, Value: 11}, {Key: 2, Value: 10}} {
			second := mustAppend(t, feeds, writer, known, pair.Key, pair.Value)
			checkNotGrown(t, first, second)
			checkNotGrown(t, second, first)
		}
	})
}

// The lists of the writers are those of others now.
func TestGrowthOfEntriesOfOtherWriters(t *testing.T) {
	pair := impl.Pair{Key: 4, Value: 40}
	for a := range impl.Writers {
		for b := range impl.Writers {
			if a != b {
				checkNotGrown(t, entriesOfOne(t, a, pair), entriesOfOne(t, b, pair))
				checkNotGrown(t, entriesOfOne(t, a, pair), entriesOfOne(t, b, pair, pair))
			}
		}
	}
}

// Each writer has MaxEntries entries now, and had every smaller number of them.
func TestGrowthUpToAllEntries(t *testing.T) {
	random := rand.New(rand.NewSource(56))
	for number, now := range joinsOf(random, []int{8, 8, 8}) {
		beginnings := beginningsOf(now)
		for place, before := range beginnings {
			if place%11 == number%11 || place == len(beginnings)-1 {
				checkViewGrows(t, before, now, true)
				checkViewKept(t, before, now, plainViewKept(before, now))
			}
		}
	}
}

func TestViewGetOfNoPairs(t *testing.T) {
	for _, view := range [][]impl.Pair{nil, {}, viewWithKeys(1, 2)[:0]} {
		for _, key := range askedKeys(nil) {
			checkViewGet(t, view, key, 0, false)
		}
	}
}

func TestViewGetOfOnePair(t *testing.T) {
	for _, key := range []int{0, 1, 4, 8, 9, -1, 10, math.MinInt, math.MaxInt} {
		for _, value := range []int{0, 1, 50, 99, -1, 100, math.MinInt, math.MaxInt} {
			view := []impl.Pair{{Key: key, Value: value}}
			checkViewGet(t, view, key, value, true)
			// The sums may wrap around, which gives other keys, too.
			checkViewGet(t, view, key-1, 0, false)
			checkViewGet(t, view, key+1, 0, false)
			checkGetRules(t, view)
		}
	}
}

// A key is below the smallest one, between two and above the greatest one, near and far.
func TestViewGetOfKeysThatAreNotThere(t *testing.T) {
	view := viewWithKeys(2, 4, 5, 8)
	for _, key := range []int{math.MinInt, -4, -1, 0, 1, 3, 6, 7, 9, 10, 12, 258, math.MaxInt} {
		checkViewGet(t, view, key, 0, false)
	}
	for place, key := range []int{2, 4, 5, 8} {
		checkViewGet(t, view, key, 90-7*place, true)
	}
}

func TestViewGetOfAllViews(t *testing.T) {
	for _, keys := range viewKeys() {
		checkGetRules(t, viewWithKeys(keys...))
	}
}

// The difference of two keys may wrap around, and they are ascending nevertheless, or are not.
func TestViewGetOfKeysFarFromEachOther(t *testing.T) {
	view := viewWithKeys(math.MinInt, -3, 3, math.MaxInt)
	for place, pair := range view {
		checkViewGet(t, view, pair.Key, 90-7*place, true)
	}
	backward := slices.Clone(view)
	slices.Reverse(backward)
	for _, pair := range view {
		checkViewGet(t, backward, pair.Key, 0, false)
	}
}

// Pairs with equal or descending keys are no view, and no key is found, also not one that is far from them.
func TestViewGetOfKeysThatAreNotAscending(t *testing.T) {
	for _, view := range notViews() {
		for _, key := range append(askedKeys(view), keysOfView(view)...) {
			checkViewGet(t, view, key, 0, false)
		}
	}
}

// The pairs are no view because of two keys beside the one that is asked for, before it and behind it, close to it and far from it.
func TestViewGetBesideKeysThatAreNotAscending(t *testing.T) {
	for _, keys := range [][]int{{0, 0, 5}, {1, 0, 5}, {5, 9, 9}, {5, 9, 8}, {0, 0, 1, 2, 3, 4, 5}, {5, 6, 7, 8, 9, 9}, {1, 0, 2, 3, 4, 5, 6, 7, 8, 9}, {0, 1, 2, 3, 4, 5, 6, 7, 9, 8}, {3, 3, 5, 7}, {3, 5, 7, 7}, {3, 5, 5, 7}} {
		checkViewGet(t, viewWithKeys(keys...), 5, 0, false)
	}
	// Without the two keys, it is found.
	checkViewGet(t, viewWithKeys(0, 5), 5, 83, true)
	checkViewGet(t, viewWithKeys(5, 9), 5, 90, true)
	// Two equal pairs are two equal keys.
	checkViewGet(t, []impl.Pair{{Key: 1, Value: 1}, {Key: 1, Value: 1}, {Key: 5, Value: 5}}, 5, 0, false)
}

func TestViewGetFollowsItsRules(t *testing.T) {
	random := rand.New(rand.NewSource(57))
	found := 0
	for range 5000 {
		view := []impl.Pair{}
		for range random.Intn(6) {
			view = append(view, impl.Pair{Key: random.Intn(14) - 2, Value: random.Intn(100)})
		}
		if random.Intn(2) == 0 {
			slices.SortFunc(view, func(a, b impl.Pair) int { return a.Key - b.Key })
		}
		key := random.Intn(14) - 2
		want, wantOk := plainViewGet(view, key)
		checkViewGet(t, view, key, want, wantOk)
		if wantOk {
			found++
		}
	}
	if found < 300 {
		t.Errorf("only %d keys are found", found)
	}
}

func TestViewsAndGrowthOfMixedEntries(t *testing.T) {
	random := rand.New(rand.NewSource(58))
	valid := 0
	for range 1500 {
		before := mixedJoins(random)
		n := random.Intn(30) - 2
		want, wantOk := plainViewAt(before, n)
		checkViewAt(t, before, n, want, wantOk)
		if wantOk {
			valid++
		}
		now := mixedJoins(random)
		checkGrowthRules(t, before, now)
		for range random.Intn(4) {
			if further, ok := plainAppend(now, random.Intn(3), []int{0, 0, 0}, 1, 1); ok {
				checkGrowthRules(t, now, further)
				checkGrowthRules(t, further, now)
				now = further
			}
		}
	}
	if valid < 200 || valid > 1300 {
		t.Errorf("%d views of 1500 are valid", valid)
	}
}
