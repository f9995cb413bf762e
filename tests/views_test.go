package tests

import (
	"slices"
	"testing"

	"loop.example/feedswarm/impl"
)

// The values of this test are written out by the document's rules.
func TestViewValues(t *testing.T) {
	none := []int{0, 0, 0}
	before := mustAppend(t, noEntries(), 2, none, 9, 99)
	before = mustAppend(t, before, 0, []int{0, 0, 1}, 0, 0)
	before = mustAppend(t, before, 1, none, 9, 50)
	checkJoinOrder(t, before, []impl.Ref{{Writer: 1}, {Writer: 2}, {Writer: 0}})
	checkViewAt(t, before, 0, nil, true)
	checkViewAt(t, before, 1, []impl.Pair{{Key: 9, Value: 50}}, true)
	checkViewAt(t, before, 2, []impl.Pair{{Key: 9, Value: 99}}, true)
	checkViewAt(t, before, 3, []impl.Pair{{Key: 0, Value: 0}, {Key: 9, Value: 99}}, true)
	checkViewAt(t, before, 4, nil, false)
	checkViewAt(t, before, -1, nil, false)
	// The second entry of writer 1 knows only the first one, and so it comes before that of writer 2.
	now := mustAppend(t, before, 1, none, 4, 40)
	checkJoinOrder(t, now, []impl.Ref{{Writer: 1, Index: 0}, {Writer: 1, Index: 1}, {Writer: 2, Index: 0}, {Writer: 0, Index: 0}})
	checkViewAt(t, now, 2, []impl.Pair{{Key: 4, Value: 40}, {Key: 9, Value: 50}}, true)
	checkViewAt(t, now, 4, []impl.Pair{{Key: 0, Value: 0}, {Key: 4, Value: 40}, {Key: 9, Value: 99}}, true)
	checkViewKept(t, before, now, 1)
	checkViewKept(t, now, before, -1)
	checkViewGrows(t, before, now, true)
	checkViewGrows(t, now, before, false)
	view := mustView(t, now, 4)
	checkViewGet(t, view, 0, 0, true)
	checkViewGet(t, view, 4, 40, true)
	checkViewGet(t, view, 9, 99, true)
	checkViewGet(t, view, 5, 0, false)
}

// lastSetting returns the value that the last of some entries sets a key to, and how many of them set it.
func lastSetting(feeds [][]impl.Entry, places []impl.Ref, key int) (int, int) {
	value, many := 0, 0
	for _, place := range places {
		if e := entryAt(feeds, place); e.Key == key {
			value = e.Value
			many++
		}
	}
	return value, many
}

func TestPromise129ViewHasTheLastValueOfEachKey(t *testing.T) {
	once, often := 0, 0
	for _, feeds := range append(allViewJoins(), viewJoins()...) {
		order := impl.JoinOrder(feeds)
		for n := range len(order) + 1 {
			view := mustView(t, feeds, n)
			next := 0
			for key := range 10 {
				value, many := lastSetting(feeds, order[:n], key)
				if many == 0 {
					continue
				}
				if next >= len(view) || view[next] != (impl.Pair{Key: key, Value: value}) {
					t.Fatalf("ViewAt of %v and %d is %v, but %d is set to %d", feeds, n, view, key, value)
				}
				next++
				if many == 1 {
					once++
				} else {
					often++
				}
			}
			if next != len(view) {
				t.Fatalf("ViewAt of %v and %d is %v, with keys that are not set", feeds, n, view)
			}
		}
	}
	if once < 20000 || often < 20000 {
		t.Errorf("only %d keys are set once, and %d more often", once, often)
	}
}

func TestPromise130OneMoreEntryChangesOnlyItsKey(t *testing.T) {
	added, replaced, same := 0, 0, 0
	for _, feeds := range append(allViewJoins(), viewJoins()...) {
		order := impl.JoinOrder(feeds)
		for n, place := range order {
			before, now := mustView(t, feeds, n), mustView(t, feeds, n+1)
			e := entryAt(feeds, place)
			if !slices.Equal(withoutKey(before, e.Key), withoutKey(now, e.Key)) || !slices.Contains(now, impl.Pair{Key: e.Key, Value: e.Value}) {
				t.Fatalf("the view %v becomes %v by the entry %v", before, now, e)
			}
			switch {
			case len(now) > len(before):
				added++
			case !slices.Equal(before, now):
				replaced++
			default:
				same++
			}
		}
	}
	if added < 2000 || replaced < 2000 || same < 500 {
		t.Errorf("only %d entries add a key, %d replace a value, and %d change nothing", added, replaced, same)
	}
}

func TestPromise131ViewAfterNoEntriesIsEmpty(t *testing.T) {
	for _, feeds := range append(allViewJoins(), viewJoins()...) {
		checkViewAt(t, feeds, 0, nil, true)
	}
	checkViewAt(t, noEntries(), 0, nil, true)
	checkViewAt(t, [][]impl.Entry{nil, nil, nil}, 0, nil, true)
}

func TestPromise132ValueIsThatOfTheView(t *testing.T) {
	found := 0
	eachView(t, func(view []impl.Pair) {
		for _, key := range askedKeys(view) {
			if value, ok := impl.ViewGet(view, key); ok {
				if !slices.Contains(view, impl.Pair{Key: key, Value: value}) {
					t.Fatalf("ViewGet of %v and %d is %d", view, key, value)
				}
				found++
			}
		}
		for _, pair := range view {
			checkViewGet(t, view, pair.Key, pair.Value, true)
		}
	})
	if found < 20000 {
		t.Errorf("only %d keys are found", found)
	}
}

func TestPromise133KeptEntriesAreThoseOfBothOrders(t *testing.T) {
	none, part, all, ended := 0, 0, 0, 0
	for _, g := range growths() {
		kept := impl.ViewKept(g.before, g.now)
		before, now := impl.JoinOrder(g.before), impl.JoinOrder(g.now)
		if kept < 0 || kept > len(before) || kept > len(now) || !slices.Equal(before[:kept], now[:kept]) {
			t.Fatalf("ViewKept of %v and %v is %d, and the orders are %v and %v", g.before, g.now, kept, before, now)
		}
		for place, r := range before[:kept] {
			if !equalEntries(entryAt(g.before, r), entryAt(g.now, now[place])) {
				t.Fatalf("the entry %d of %v and of %v is not the same", place, g.before, g.now)
			}
		}
		if kept < len(before) && kept < len(now) && before[kept] == now[kept] {
			t.Fatalf("ViewKept of %v and %v is only %d", g.before, g.now, kept)
		}
		checkViewAt(t, g.now, kept, mustView(t, g.before, kept), true)
		switch {
		case kept == len(before) && kept == len(now):
			ended++
		case kept == len(before):
			all++
		case kept > 0:
			part++
		default:
			none++
		}
	}
	if none < 200 || part < 500 || all < 500 || ended < 500 {
		t.Errorf("only %d times no entry is kept, %d times some, %d times all and %d times all there are", none, part, all, ended)
	}
}

func TestPromise134StableEntriesAreKept(t *testing.T) {
	stable, moved := 0, 0
	for _, g := range growths() {
		least, kept := impl.JoinStable(g.before), impl.ViewKept(g.before, g.now)
		if kept < least {
			t.Fatalf("ViewKept of %v and %v is %d, and JoinStable was %d", g.before, g.now, kept, least)
		}
		if least > 0 && manyEntries(g.now) > manyEntries(g.before) {
			stable++
			if kept < manyEntries(g.before) {
				moved++
			}
		}
	}
	if stable < 500 || moved < 100 {
		t.Errorf("only %d times entries are stable, and %d times others behind them move", stable, moved)
	}
}

// The stable entries outlast everything that is appended, up to MaxEntries of each writer.
func TestPromise134StableEntriesAreKeptForEver(t *testing.T) {
	kept := 0
	for _, now := range allViewJoins() {
		order := impl.JoinOrder(now)
		before := now
		for many := len(order) - 1; many >= 0; many-- {
			before = withoutLast(before, order[many].Writer)
			if impl.ViewKept(before, now) < impl.JoinStable(before) {
				t.Fatalf("%d entries of %v are stable, and %d of %v are kept", impl.JoinStable(before), before, impl.ViewKept(before, now), now)
			}
			if impl.JoinStable(before) > 0 {
				kept++
			}
		}
	}
	if kept < 500 {
		t.Errorf("only %d times entries are stable", kept)
	}
}

func TestPromise135EntriesGrowByThemselvesAndByAppendedOnes(t *testing.T) {
	for _, feeds := range append(allViewJoins(), viewJoins()...) {
		checkViewGrows(t, feeds, feeds, true)
		checkViewGrows(t, feeds, cloneJoins(feeds), true)
	}
	appended := 0
	eachAppend(allViewJoins(), func(feeds [][]impl.Entry, writer int, known []int) {
		further := mustAppend(t, feeds, writer, known, 3, 33)
		checkViewGrows(t, feeds, further, true)
		checkViewGrows(t, further, feeds, false)
		appended++
	})
	if appended < 20000 {
		t.Errorf("only %d entries are appended", appended)
	}
}

func TestPromise136EntriesKeepThemselves(t *testing.T) {
	for _, feeds := range append(allViewJoins(), viewJoins()...) {
		checkViewKept(t, feeds, feeds, manyEntries(feeds))
		checkViewKept(t, feeds, cloneJoins(feeds), manyEntries(feeds))
	}
	checkViewKept(t, noEntries(), noEntries(), 0)
}

func TestPromise137ViewHasAtMostTenAscendingKeys(t *testing.T) {
	ten, fewer := 0, 0
	for _, feeds := range append(allViewJoins(), viewJoins()...) {
		for n := range manyEntries(feeds) + 1 {
			view := mustView(t, feeds, n)
			if len(view) > n || len(view) > 10 {
				t.Fatalf("ViewAt of %v and %d is %v", feeds, n, view)
			}
			for place := 1; place < len(view); place++ {
				if view[place-1].Key >= view[place].Key {
					t.Fatalf("ViewAt of %v and %d is %v", feeds, n, view)
				}
			}
			if len(view) == 10 {
				ten++
			} else if len(view) < n {
				fewer++
			}
		}
	}
	if ten < 300 || fewer < 5000 {
		t.Errorf("only %d views have ten keys, and %d have fewer than entries", ten, fewer)
	}
}

func TestPromise138KeyIsGoneWithItsPair(t *testing.T) {
	gone := 0
	eachView(t, func(view []impl.Pair) {
		for _, pair := range view {
			without := withoutKey(view, pair.Key)
			checkViewGet(t, view, pair.Key, pair.Value, true)
			checkViewGet(t, without, pair.Key, 0, false)
			// All others are found as before.
			for _, other := range without {
				checkViewGet(t, without, other.Key, other.Value, true)
			}
			gone++
		}
	})
	if gone < 5000 {
		t.Errorf("only %d pairs are removed", gone)
	}
}

func TestPromise139KeptAreAllIfTheOrderGoesOn(t *testing.T) {
	on, other := 0, 0
	for _, g := range growths() {
		before, now := impl.JoinOrder(g.before), impl.JoinOrder(g.now)
		kept := impl.ViewKept(g.before, g.now)
		if kept > manyEntries(g.before) {
			t.Fatalf("ViewKept of %v and %v is %d", g.before, g.now, kept)
		}
		if goesOn := slices.Equal(before, now[:len(before)]); goesOn != (kept == manyEntries(g.before)) {
			t.Fatalf("ViewKept of %v and %v is %d, and the orders are %v and %v", g.before, g.now, kept, before, now)
		} else if goesOn {
			on++
		} else {
			other++
		}
	}
	if on < 1000 || other < 1000 {
		t.Errorf("only %d orders go on, and %d become others", on, other)
	}
}
