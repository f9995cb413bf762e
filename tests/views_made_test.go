package tests

import (
	"math"
	"math/rand"
	"slices"
	"testing"

	"loop.example/feedswarm/impl"
)

// noEntries are the entries of writers that have none.
func noEntries() [][]impl.Entry {
	return feedsOf(nil, nil, nil)
}

// withPairs returns the entries with other keys and values. The number is that of the place, those of the smallest writer first.
func withPairs(feeds [][]impl.Entry, pairOf func(number int, place impl.Ref) impl.Pair) [][]impl.Entry {
	copies := cloneJoins(feeds)
	for number, place := range placesOf(feeds) {
		pair := pairOf(number, place)
		copies[place.Writer][place.Index].Key = pair.Key
		copies[place.Writer][place.Index].Value = pair.Value
	}
	return copies
}

// randomPairs returns the entries with any keys and values.
func randomPairs(random *rand.Rand, feeds [][]impl.Entry) [][]impl.Entry {
	return withPairs(feeds, func(_ int, _ impl.Ref) impl.Pair { return impl.Pair{Key: random.Intn(10), Value: random.Intn(100)} })
}

// pairedJoins returns entries with the same clocks, whose keys are set once, twice and more often, by one writer and by several ones, to the same value and to different ones.
func pairedJoins(random *rand.Rand, feeds [][]impl.Entry) [][][]impl.Entry {
	lists := [][][]impl.Entry{randomPairs(random, feeds)}
	for _, pairOf := range []func(number int, place impl.Ref) impl.Pair{
		// All entries set one key, to different values or to the same one.
		func(number int, _ impl.Ref) impl.Pair { return impl.Pair{Key: 0, Value: number} },
		func(_ int, _ impl.Ref) impl.Pair { return impl.Pair{Key: 9, Value: 99} },
		// Each writer sets a key of its own, and the greatest writer the smallest key.
		func(number int, place impl.Ref) impl.Pair { return impl.Pair{Key: 9 - place.Writer, Value: number} },
		// The writers set the same keys, one after the other.
		func(_ int, place impl.Ref) impl.Pair {
			return impl.Pair{Key: place.Index, Value: 10*place.Writer + place.Index}
		},
		func(number int, place impl.Ref) impl.Pair { return impl.Pair{Key: 8 - place.Index, Value: 99 - number} },
		// All ten keys are set, if there are so many entries.
		func(number int, _ impl.Ref) impl.Pair { return impl.Pair{Key: number % 10, Value: number} },
		func(number int, _ impl.Ref) impl.Pair {
			return impl.Pair{Key: number * 3 % 10, Value: 99 * (number % 2)}
		},
		// Two keys are set to two values.
		func(_ int, _ impl.Ref) impl.Pair {
			return impl.Pair{Key: 9 * random.Intn(2), Value: 99 * random.Intn(2)}
		},
	} {
		lists = append(lists, withPairs(feeds, pairOf))
	}
	return lists
}

// viewJoins returns valid entries of all kinds, each with keys and values of all kinds.
func viewJoins() [][][]impl.Entry {
	random := rand.New(rand.NewSource(51))
	lists := [][][]impl.Entry{}
	for _, feeds := range fewJoins() {
		lists = append(lists, pairedJoins(random, feeds)...)
	}
	return lists
}

// allViewJoins returns all valid entries, each with any keys and values.
func allViewJoins() [][][]impl.Entry {
	random := rand.New(rand.NewSource(52))
	lists := [][][]impl.Entry{}
	for _, feeds := range validJoins() {
		lists = append(lists, randomPairs(random, feeds))
	}
	return lists
}

// firstOf returns so many first entries of each writer.
func firstOf(feeds [][]impl.Entry, many []int) [][]impl.Entry {
	copies := cloneJoins(feeds)
	for writer, count := range many {
		copies[writer] = copies[writer][:count:count]
	}
	return copies
}

// knowOnly reports whether the last entries of all writers know at most so many entries of each.
func knowOnly(feeds [][]impl.Entry, many []int) bool {
	for _, entries := range feeds {
		if len(entries) == 0 {
			continue
		}
		for writer, count := range entries[len(entries)-1].Clock {
			if count > many[writer] {
				return false
			}
		}
	}
	return true
}

// beginningsOf returns all valid entries from which these have grown, these among them.
func beginningsOf(feeds [][]impl.Entry) [][][]impl.Entry {
	lists := [][][]impl.Entry{}
	for _, many := range knownLists(feeds) {
		if first := firstOf(feeds, many); knowOnly(first, many) {
			lists = append(lists, first)
		}
	}
	return lists
}

// growth are entries, before and now.
type growth struct {
	before [][]impl.Entry
	now    [][]impl.Entry
}

// growths returns entries of all kinds that have grown: not at all, by one, and by entries of several writers.
func growths() []growth {
	random := rand.New(rand.NewSource(53))
	list := []growth{}
	for number, feeds := range allViewJoins() {
		first := beginningsOf(feeds)
		for place, before := range first {
			// Those of long lists are too many to try all of them with each list.
			if manyEntries(feeds) <= 4 || place == 0 || place == len(first)-1 || random.Intn(len(first)) < 8 || number%97 == 0 {
				list = append(list, growth{before, cloneJoins(feeds)})
			}
		}
	}
	return list
}

// fewGrowths returns some of the grown entries, for tests that do more with each of them.
func fewGrowths() []growth {
	few := []growth{}
	for number, g := range growths() {
		if number%23 == 0 {
			few = append(few, g)
		}
	}
	return few
}

// invalidJoins returns invalid entries, at least one for each reason.
func invalidJoins() [][][]impl.Entry {
	random := rand.New(rand.NewSource(54))
	tooMany := [][]int{}
	for index := range impl.MaxEntries + 1 {
		tooMany = append(tooMany, []int{0, index + 1, 0})
	}
	valid := feedsOf([][]int{{1, 0, 0}, {2, 1, 0}}, [][]int{{0, 1, 0}}, [][]int{{1, 0, 1}})
	first := impl.Ref{}
	lists := [][][]impl.Entry{
		nil,
		{nil, nil},
		{nil, nil, nil, nil},
		valid[:2],
		append(cloneJoins(valid), nil),
		withPairs(feedsOf(nil, tooMany, nil), func(_ int, _ impl.Ref) impl.Pair { return impl.Pair{Key: 1, Value: 1} }),
		withEntry(valid, first, func(e *impl.Entry) { e.Key = -1 }),
		withEntry(valid, first, func(e *impl.Entry) { e.Key = 10 }),
		withEntry(valid, first, func(e *impl.Entry) { e.Value = -1 }),
		withEntry(valid, first, func(e *impl.Entry) { e.Value = 100 }),
		withEntry(valid, first, func(e *impl.Entry) { e.Clock = nil }),
		withEntry(valid, first, func(e *impl.Entry) { e.Clock = []int{1, 0} }),
		withEntry(valid, first, func(e *impl.Entry) { e.Clock = []int{1, 0, 0, 0} }),
		// The number of the writer itself, of entries that are not there, and a negative one.
		withCount(valid, first, 0, 2),
		withCount(valid, first, 1, 2),
		withCount(valid, first, 2, -1),
		// An entry knows less than one that it sees, and two see each other.
		feedsOf([][]int{{1, 0, 0}}, [][]int{{1, 1, 0}}, [][]int{{0, 1, 1}}),
		feedsOf([][]int{{1, 1, 0}}, [][]int{{1, 1, 0}}, nil),
	}
	for len(lists) < 60 {
		if feeds := mixedJoins(random); !plainJoinValid(feeds) {
			lists = append(lists, feeds)
		}
	}
	return lists
}

// notLengths returns numbers of entries that there are not, near to the valid ones and far from them.
func notLengths(many int) []int {
	return []int{-1, -2, -many - 1, many + 1, many + 2, many + 100, 1 << 32, -1 << 32, math.MinInt, math.MaxInt}
}

// keysOfView returns the keys of a view.
func keysOfView(view []impl.Pair) []int {
	keys := []int{}
	for _, pair := range view {
		keys = append(keys, pair.Key)
	}
	return keys
}

// withoutKey returns a view without the pair of a key.
func withoutKey(view []impl.Pair, key int) []impl.Pair {
	return slices.DeleteFunc(slices.Clone(view), func(pair impl.Pair) bool { return pair.Key == key })
}

// viewWithKeys returns pairs with these keys, in this order, with values that tell them apart.
func viewWithKeys(keys ...int) []impl.Pair {
	view := []impl.Pair{}
	for place, key := range keys {
		view = append(view, impl.Pair{Key: key, Value: 90 - 7*place})
	}
	return view
}

// viewKeys returns the keys of views: all lists of ascending keys from 0 to 9, and some with keys that no entry can have.
func viewKeys() [][]int {
	lists := [][]int{}
	for bits := range 1 << 10 {
		keys := []int{}
		for key := range 10 {
			if bits>>key&1 == 1 {
				keys = append(keys, key)
			}
		}
		lists = append(lists, keys)
	}
	many := []int{}
	for key := range 300 {
		many = append(many, 3*key-400)
	}
	return append(lists, many, []int{-1}, []int{10}, []int{-5, 5, 50}, []int{math.MinInt}, []int{math.MaxInt},
		[]int{math.MinInt, math.MaxInt}, []int{math.MinInt, 0, math.MaxInt}, []int{math.MinInt, math.MinInt + 1, -2, 2, math.MaxInt - 1, math.MaxInt})
}

// askedKeys returns keys to ask a view for: its own ones, those beside them, and such that are far away.
func askedKeys(view []impl.Pair) []int {
	keys := []int{math.MinInt, math.MinInt + 1, -1 << 32, -10, 256, 1 << 32, math.MaxInt - 1, math.MaxInt}
	for key := -2; key <= 12; key++ {
		keys = append(keys, key)
	}
	for _, key := range keysOfView(view) {
		// The sums may wrap around, which gives a key, too.
		keys = append(keys, key-1, key, key+1)
	}
	return keys
}

// notViews returns pairs whose keys are not strictly ascending, at all places of them.
func notViews() [][]impl.Pair {
	lists := [][]impl.Pair{
		viewWithKeys(0, 0), viewWithKeys(9, 9), viewWithKeys(1, 0), viewWithKeys(9, 0), viewWithKeys(9, 8, 7, 6, 5, 4, 3, 2, 1, 0),
		viewWithKeys(4, 4, 4, 4), viewWithKeys(0, 2, 1), viewWithKeys(1, 0, 2), viewWithKeys(0, 1, 1), viewWithKeys(1, 1, 2),
		viewWithKeys(math.MaxInt, math.MinInt), viewWithKeys(math.MaxInt, 0), viewWithKeys(0, math.MinInt), viewWithKeys(math.MinInt, math.MinInt),
	}
	for _, keys := range [][]int{{0, 1, 2, 3, 4, 5, 6, 7, 8, 9}, {0, 2, 4, 6, 8}, {1, 5, 9}, {3, 7}} {
		for place := 1; place < len(keys); place++ {
			equal, swapped := slices.Clone(keys), slices.Clone(keys)
			equal[place] = equal[place-1]
			swapped[place], swapped[place-1] = swapped[place-1], swapped[place]
			lists = append(lists, viewWithKeys(equal...), viewWithKeys(swapped...), viewWithKeys(slices.Insert(slices.Clone(keys), place, keys[place])...))
		}
	}
	return lists
}

// checkViewAt fails the test if ViewAt does not return this view and this result.
func checkViewAt(t *testing.T, feeds [][]impl.Entry, n int, want []impl.Pair, wantOk bool) {
	t.Helper()
	if got, ok := impl.ViewAt(feeds, n); ok != wantOk || !slices.Equal(got, want) {
		t.Fatalf("ViewAt of %v and %d is %v, %v, not %v, %v", feeds, n, got, ok, want, wantOk)
	}
}

// checkViewGet fails the test if ViewGet does not return this value and this result.
func checkViewGet(t *testing.T, view []impl.Pair, key int, want int, wantOk bool) {
	t.Helper()
	if got, ok := impl.ViewGet(view, key); ok != wantOk || got != want {
		t.Fatalf("ViewGet of %v and %d is %d, %v, not %d, %v", view, key, got, ok, want, wantOk)
	}
}

// checkViewKept fails the test if ViewKept does not return this number.
func checkViewKept(t *testing.T, before [][]impl.Entry, now [][]impl.Entry, want int) {
	t.Helper()
	if got := impl.ViewKept(before, now); got != want {
		t.Fatalf("ViewKept of %v and %v is %d, not %d", before, now, got, want)
	}
}

// checkViewGrows fails the test if ViewGrows does not return this.
func checkViewGrows(t *testing.T, before [][]impl.Entry, now [][]impl.Entry, want bool) {
	t.Helper()
	if got := impl.ViewGrows(before, now); got != want {
		t.Fatalf("ViewGrows of %v and %v is %v", before, now, got)
	}
}

// checkNotGrown fails the test if entries count as grown from others.
func checkNotGrown(t *testing.T, before [][]impl.Entry, now [][]impl.Entry) {
	t.Helper()
	checkViewGrows(t, before, now, false)
	checkViewKept(t, before, now, -1)
}

// mustView returns the view after so many entries. It fails the test if ViewAt does.
func mustView(t *testing.T, feeds [][]impl.Entry, n int) []impl.Pair {
	t.Helper()
	view, ok := impl.ViewAt(feeds, n)
	if !ok {
		t.Fatalf("ViewAt of %v and %d fails", feeds, n)
	}
	return view
}

// eachView calls a function with views of all keys, and with those after all entries of all kinds.
func eachView(t *testing.T, call func(view []impl.Pair)) {
	t.Helper()
	for _, keys := range viewKeys() {
		call(viewWithKeys(keys...))
	}
	for _, feeds := range viewJoins() {
		call(mustView(t, feeds, manyEntries(feeds)))
	}
}
