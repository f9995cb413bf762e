package tests

import (
	"slices"
	"testing"

	"loop.example/feedswarm/impl"
)

func TestJoiningConstants(t *testing.T) {
	if impl.Writers != 3 || impl.MaxEntries != 8 {
		t.Errorf("Writers is %d, MaxEntries is %d", impl.Writers, impl.MaxEntries)
	}
}

// The values of this test are written out by the document's rules.
func TestJoiningValues(t *testing.T) {
	feeds := [][]impl.Entry{nil, nil, nil}
	feeds = mustAppend(t, feeds, 2, []int{0, 0, 0}, 9, 99)
	feeds = mustAppend(t, feeds, 0, []int{0, 0, 1}, 0, 0)
	feeds = mustAppend(t, feeds, 1, []int{0, 0, 0}, 4, 50)
	feeds = mustAppend(t, feeds, 1, []int{1, 1, 0}, 5, 51)
	feeds = mustAppend(t, feeds, 0, []int{0, 1, 0}, 6, 52)
	want := [][]impl.Entry{
		{{Clock: []int{1, 0, 1}, Key: 0, Value: 0}, {Clock: []int{2, 1, 1}, Key: 6, Value: 52}},
		{{Clock: []int{0, 1, 0}, Key: 4, Value: 50}, {Clock: []int{1, 2, 1}, Key: 5, Value: 51}},
		{{Clock: []int{0, 0, 1}, Key: 9, Value: 99}},
	}
	if !equalJoins(feeds, want) {
		t.Fatalf("JoinAppend returns %v, not %v", feeds, want)
	}
	checkJoinValid(t, feeds, true)
	checkJoinOrder(t, feeds, []impl.Ref{{Writer: 1, Index: 0}, {Writer: 2, Index: 0}, {Writer: 0, Index: 0}, {Writer: 0, Index: 1}, {Writer: 1, Index: 1}})
	checkJoinStable(t, feeds, 2)
	checkJoinSees(t, feeds, impl.Ref{Writer: 1, Index: 1}, impl.Ref{Writer: 2, Index: 0}, true)
	checkJoinSees(t, feeds, impl.Ref{Writer: 0, Index: 1}, impl.Ref{Writer: 1, Index: 1}, false)
	checkJoinSees(t, feeds, impl.Ref{Writer: 1, Index: 1}, impl.Ref{Writer: 0, Index: 1}, false)
	checkJoinSees(t, feeds, impl.Ref{Writer: 0, Index: 1}, impl.Ref{Writer: 0, Index: 0}, true)
	checkJoinSees(t, feeds, impl.Ref{Writer: 0, Index: 0}, impl.Ref{Writer: 0, Index: 1}, false)
}

// eachAppend calls a function with valid entries and the arguments of entries that can be appended to them.
func eachAppend(lists [][][]impl.Entry, call func(feeds [][]impl.Entry, writer int, known []int)) {
	for _, feeds := range lists {
		for writer := range impl.Writers {
			if len(feeds[writer]) == impl.MaxEntries {
				continue
			}
			for _, known := range fewKnown(feeds) {
				call(feeds, writer, known)
			}
		}
	}
}

// seesOf asks JoinSees for all pairs of places.
func seesOf(feeds [][]impl.Entry) map[[2]impl.Ref]bool {
	sees := map[[2]impl.Ref]bool{}
	for _, a := range placesOf(feeds) {
		for _, b := range placesOf(feeds) {
			sees[[2]impl.Ref{a, b}] = impl.JoinSees(feeds, a, b)
		}
	}
	return sees
}

func TestPromise112OneMoreEntry(t *testing.T) {
	appended := 0
	eachAppend(validJoins(), func(feeds [][]impl.Entry, writer int, known []int) {
		key, value := appended%10, appended*7%100
		further, ok := impl.JoinAppend(feeds, writer, known, key, value)
		if !ok || !impl.JoinValid(further) {
			t.Fatalf("JoinAppend of %v, %d and %v is %v, %v", feeds, writer, known, further, ok)
		}
		last := len(feeds[writer])
		for other := range impl.Writers {
			many := len(feeds[other])
			if other == writer {
				many++
			}
			if len(further[other]) != many || !slices.EqualFunc(further[other][:len(feeds[other])], feeds[other], equalEntries) {
				t.Fatalf("JoinAppend of %v, %d and %v is %v", feeds, writer, known, further)
			}
		}
		if e := further[writer][last]; e.Key != key || e.Value != value {
			t.Fatalf("JoinAppend of %v, %d and %v has the entry %v with another key than %d or another value than %d", feeds, writer, known, e, key, value)
		}
		appended++
	})
	if appended < 20000 {
		t.Errorf("only %d entries are appended", appended)
	}
}

// Each key is tried with each value.
func TestPromise112AllKeysAndValues(t *testing.T) {
	feeds := feedsOf([][]int{{1, 0, 0}}, [][]int{{1, 1, 0}}, nil)
	for key := range 10 {
		for value := range 100 {
			want := withLast(feeds, 2, impl.Entry{Clock: []int{1, 0, 1}, Key: key, Value: value})
			checkJoinAppend(t, feeds, 2, []int{1, 0, 0}, key, value, want, true)
			checkJoinValid(t, want, true)
		}
	}
}

func TestPromise113EntryKnowsWhatItIsTold(t *testing.T) {
	more, previous := 0, 0
	eachAppend(append(shortJoins(3), longJoins()...), func(feeds [][]impl.Entry, writer int, known []int) {
		further := mustAppend(t, feeds, writer, known, 1, 1)
		place := impl.Ref{Writer: writer, Index: len(feeds[writer])}
		clock := entryAt(further, place).Clock
		for other, count := range known {
			if clock[other] < count {
				t.Fatalf("JoinAppend of %v, %d and %v has the clock %v", feeds, writer, known, clock)
			}
			if other != writer && clock[other] > count {
				more++
			}
		}
		if place.Index == 0 {
			return
		}
		before := impl.Ref{Writer: writer, Index: place.Index - 1}
		checkJoinSees(t, further, place, before, true)
		for other, count := range entryAt(feeds, before).Clock {
			if count > 0 && other != writer {
				checkJoinSees(t, further, place, impl.Ref{Writer: other, Index: count - 1}, true)
				previous++
			}
		}
		if before.Index > 0 {
			checkJoinSees(t, further, place, impl.Ref{Writer: writer, Index: before.Index - 1}, true)
		}
	})
	if more < 2000 || previous < 5000 {
		t.Errorf("only %d numbers are greater than told, and %d of previous entries are seen", more, previous)
	}
}

func TestPromise114NoTwoEntriesSeeEachOther(t *testing.T) {
	one, none := 0, 0
	for _, feeds := range validJoins() {
		sees := seesOf(feeds)
		for pair, seen := range sees {
			if seen && (pair[0] == pair[1] || sees[[2]impl.Ref{pair[1], pair[0]}]) {
				t.Fatalf("%v and %v of %v see each other", pair[0], pair[1], feeds)
			}
			if seen {
				one++
			} else if pair[0] != pair[1] && !sees[[2]impl.Ref{pair[1], pair[0]}] {
				none++
			}
		}
	}
	if one < 10000 || none < 10000 {
		t.Errorf("only %d entries see another one, and %d know nothing of another one that knows nothing of them", one, none)
	}
}

func TestPromise115EntriesSeeByWayOfOthers(t *testing.T) {
	ways := 0
	for _, feeds := range validJoins() {
		sees, places := seesOf(feeds), placesOf(feeds)
		for _, a := range places {
			for _, b := range places {
				if !sees[[2]impl.Ref{a, b}] {
					continue
				}
				for _, c := range places {
					if !sees[[2]impl.Ref{b, c}] {
						continue
					}
					if !sees[[2]impl.Ref{a, c}] {
						t.Fatalf("%v of %v sees %v, but not %v", a, feeds, b, c)
					}
					if a.Writer != b.Writer && b.Writer != c.Writer && a.Writer != c.Writer {
						ways++
					}
				}
			}
		}
	}
	if ways < 10000 {
		t.Errorf("only %d entries are seen by way of a third one", ways)
	}
}

func TestPromise116ClockTellsWhatIsSeen(t *testing.T) {
	seen, unseen := 0, 0
	for _, feeds := range validJoins() {
		for _, a := range placesOf(feeds) {
			for _, b := range placesOf(feeds) {
				if a == b {
					continue
				}
				want := entryAt(feeds, a).Clock[b.Writer] > b.Index
				checkJoinSees(t, feeds, a, b, want)
				if want {
					seen++
				} else {
					unseen++
				}
			}
		}
	}
	if seen < 10000 || unseen < 10000 {
		t.Errorf("only %d entries are seen, and %d are not", seen, unseen)
	}
}

func TestPromise117OrderHasEachEntryOnce(t *testing.T) {
	places := 0
	for _, feeds := range append(shortJoins(5), longJoins()...) {
		order := impl.JoinOrder(feeds)
		found := map[impl.Ref]bool{}
		for _, place := range order {
			if found[place] || !plainExists(feeds, place) {
				t.Fatalf("JoinOrder of %v is %v", feeds, order)
			}
			found[place] = true
		}
		if len(order) != manyEntries(feeds) {
			t.Fatalf("JoinOrder of %v is %v", feeds, order)
		}
		places += len(order)
	}
	if places < 15000 {
		t.Errorf("only %d entries are in an order", places)
	}
}

func TestPromise118EntriesAreBehindThoseTheySee(t *testing.T) {
	behind := 0
	for _, feeds := range validJoins() {
		order := impl.JoinOrder(feeds)
		for pair, seen := range seesOf(feeds) {
			if !seen {
				continue
			}
			if slices.Index(order, pair[0]) <= slices.Index(order, pair[1]) {
				t.Fatalf("%v is not behind %v in the order %v of %v", pair[0], pair[1], order, feeds)
			}
			behind++
		}
	}
	if behind < 10000 {
		t.Errorf("only %d entries see another one", behind)
	}
}

func TestPromise119SmallerWriterIsFirst(t *testing.T) {
	apart, waiting := 0, 0
	for _, feeds := range append(shortJoins(5), longJoins()...) {
		order := impl.JoinOrder(feeds)
		for place := 1; place < len(order); place++ {
			a, b := order[place-1], order[place]
			if impl.JoinSees(feeds, b, a) || impl.JoinSees(feeds, a, b) {
				if a.Writer > b.Writer {
					waiting++
				}
				continue
			}
			if a.Writer >= b.Writer {
				t.Fatalf("%v is before %v in the order %v of %v, and they know nothing of each other", a, b, order, feeds)
			}
			apart++
		}
	}
	if apart < 1000 || waiting < 1000 {
		t.Errorf("only %d entries are before one of which they know nothing, and %d of a greater writer before one of a smaller one", apart, waiting)
	}
}

// knownByAll reports whether each writer has made an entry, or knows it by its last one.
func knownByAll(feeds [][]impl.Entry, place impl.Ref) bool {
	for writer, entries := range feeds {
		last := impl.Ref{Writer: writer, Index: len(entries) - 1}
		if writer != place.Writer && !impl.JoinSees(feeds, last, place) {
			return false
		}
	}
	return true
}

func TestPromise120StableIsBehindWhatAllKnow(t *testing.T) {
	middle, within := 0, 0
	for _, feeds := range append(shortJoins(5), longJoins()...) {
		want, all := 0, 0
		order := impl.JoinOrder(feeds)
		for place, r := range order {
			if knownByAll(feeds, r) {
				want = place + 1
				all++
			}
		}
		checkJoinStable(t, feeds, want)
		if want > 0 && want < len(order) {
			middle++
		}
		if all < want {
			within++
		}
	}
	if middle < 500 || within < 50 {
		t.Errorf("only %d entries are stable in part, of which %d have an entry before that not all know", middle, within)
	}
}

func TestPromise121BeginningIsStable(t *testing.T) {
	stable, moved := 0, 0
	eachAppend(validJoins(), func(feeds [][]impl.Entry, writer int, known []int) {
		before, many := impl.JoinOrder(feeds), impl.JoinStable(feeds)
		now := impl.JoinOrder(mustAppend(t, feeds, writer, known, 3, 3))
		if many > len(before) || many > len(now) || !slices.Equal(before[:many], now[:many]) {
			t.Fatalf("%d entries of the order %v of %v are stable, and it becomes %v", many, before, feeds, now)
		}
		if many > 0 {
			stable++
		}
		if !slices.Equal(before, now[:len(before)]) {
			moved++
		}
	})
	if stable < 5000 || moved < 500 {
		t.Errorf("only %d orders have stable entries, and %d have others that move", stable, moved)
	}
}

// Entries are appended up to MaxEntries of each writer, so each stable beginning outlasts all of them.
func TestPromise121BeginningIsStableForEver(t *testing.T) {
	kept := 0
	for _, last := range longJoins() {
		// What is left when the last entries are taken off is what was before they were appended.
		order := impl.JoinOrder(last)
		feeds := last
		for many := len(order) - 1; many >= 0; many-- {
			feeds = withoutLast(feeds, order[many].Writer)
			before, stable := impl.JoinOrder(feeds), impl.JoinStable(feeds)
			if stable < 0 || stable > len(before) || !slices.Equal(before[:stable], order[:stable]) {
				t.Fatalf("%d entries of the order %v of %v are stable, and it becomes %v", stable, before, feeds, order)
			}
			if stable > 0 {
				kept++
			}
		}
	}
	if kept < 500 {
		t.Errorf("only %d orders have stable entries", kept)
	}
}

func TestPromise122StableDoesNotDecrease(t *testing.T) {
	same, more := 0, 0
	eachAppend(validJoins(), func(feeds [][]impl.Entry, writer int, known []int) {
		before := impl.JoinStable(feeds)
		further := mustAppend(t, feeds, writer, known, 9, 0)
		now := impl.JoinStable(further)
		if now < before {
			t.Fatalf("%d entries of %v are stable, and %d of %v", before, feeds, now, further)
		}
		if now > before {
			more++
		} else if before > 0 {
			same++
		}
	})
	if same < 2000 || more < 2000 {
		t.Errorf("JoinStable increases only %d times, and is the same %d times", more, same)
	}
}

// The writers append in every order, with what was there before all of them, and with what is there before each of them.
func TestPromise123WhatAllWritersKnowIsStable(t *testing.T) {
	stable := 0
	for _, feeds := range validJoins() {
		many := manyEntries(feeds)
		if len(feeds[0]) == impl.MaxEntries || len(feeds[1]) == impl.MaxEntries || len(feeds[2]) == impl.MaxEntries {
			continue
		}
		for _, turns := range [][]int{{0, 1, 2}, {0, 2, 1}, {1, 0, 2}, {1, 2, 0}, {2, 0, 1}, {2, 1, 0}} {
			apart, together := feeds, feeds
			for _, writer := range turns {
				apart = mustAppend(t, apart, writer, allKnown(feeds), 1, 2)
				together = mustAppend(t, together, writer, allKnown(together), 1, 2)
			}
			for _, further := range [][][]impl.Entry{apart, together} {
				if got := impl.JoinStable(further); got < many {
					t.Fatalf("%d of the first %d entries of %v are stable", got, many, further)
				}
				checkJoinOrder(t, withoutLast(withoutLast(withoutLast(further, 0), 1), 2), impl.JoinOrder(further)[:many])
			}
			stable++
		}
	}
	if stable < 2000 {
		t.Errorf("only %d times all writers know everything", stable)
	}
}

func TestPromise124EntryThatKnowsAllIsTheLastOne(t *testing.T) {
	appended := 0
	for _, feeds := range append(shortJoins(5), longJoins()...) {
		order := impl.JoinOrder(feeds)
		for writer, entries := range feeds {
			if len(entries) == impl.MaxEntries {
				continue
			}
			further := mustAppend(t, feeds, writer, allKnown(feeds), 8, 88)
			checkJoinOrder(t, further, append(slices.Clone(order), impl.Ref{Writer: writer, Index: len(entries)}))
			appended++
		}
	}
	if appended < 5000 {
		t.Errorf("only %d entries are appended", appended)
	}
}

func TestPromise125FirstEntrySeesNone(t *testing.T) {
	firsts := make([]int, impl.Writers)
	for _, feeds := range append(shortJoins(5), longJoins()...) {
		order := impl.JoinOrder(feeds)
		if len(order) == 0 {
			if manyEntries(feeds) > 0 {
				t.Fatalf("JoinOrder of %v is empty", feeds)
			}
			continue
		}
		for _, place := range placesOf(feeds) {
			checkJoinSees(t, feeds, order[0], place, false)
		}
		firsts[order[0].Writer]++
	}
	if slices.Min(firsts) < 200 {
		t.Errorf("the writers have the first entry only %v times", firsts)
	}
}

func TestPromise126IndexesOfEachWriterIncrease(t *testing.T) {
	for _, feeds := range append(shortJoins(5), longJoins()...) {
		next := make([]int, impl.Writers)
		order := impl.JoinOrder(feeds)
		for _, place := range order {
			if place.Index != next[place.Writer] {
				t.Fatalf("%v is behind %v in the order %v of %v", place, next, order, feeds)
			}
			next[place.Writer]++
		}
		if !slices.Equal(next, allKnown(feeds)) {
			t.Fatalf("the order %v of %v has only %v", order, feeds, next)
		}
	}
}

func TestPromise127StableIsAtMostAllAndNoneWhileAWriterHasNone(t *testing.T) {
	none, whole := 0, 0
	for _, feeds := range append(shortJoins(5), longJoins()...) {
		stable, many := impl.JoinStable(feeds), manyEntries(feeds)
		if stable < 0 || stable > many {
			t.Fatalf("JoinStable of %v is %d", feeds, stable)
		}
		if slices.Contains(allKnown(feeds), 0) {
			checkJoinStable(t, feeds, 0)
			none++
		} else if stable == many-2 {
			whole++
		}
	}
	if none < 500 || whole < 50 {
		t.Errorf("only %d times a writer has no entry, and %d times almost all entries are stable", none, whole)
	}
}

func TestPromise128OrderIsTheSameWithoutItsLastEntry(t *testing.T) {
	shortened := 0
	for _, feeds := range append(shortJoins(5), longJoins()...) {
		for order := impl.JoinOrder(feeds); len(order) > 0; order = order[:len(order)-1] {
			last := order[len(order)-1]
			if last.Index != len(feeds[last.Writer])-1 {
				t.Fatalf("the last entry of the order %v of %v is not the last one of its writer", order, feeds)
			}
			feeds = withoutLast(feeds, last.Writer)
			checkJoinValid(t, feeds, true)
			checkJoinOrder(t, feeds, order[:len(order)-1])
			shortened++
		}
		if manyEntries(feeds) > 0 {
			t.Fatalf("the order of more than %v is empty", feeds)
		}
	}
	if shortened < 15000 {
		t.Errorf("only %d orders are shortened", shortened)
	}
}
