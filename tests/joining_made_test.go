package tests

import (
	"fmt"
	"math"
	"math/rand"
	"slices"
	"testing"

	"loop.example/feedswarm/impl"
)

// feedsOf returns entries with these clocks, a list of clocks for each writer, and with keys and values that tell them apart.
func feedsOf(clocks ...[][]int) [][]impl.Entry {
	feeds := [][]impl.Entry{}
	for writer, list := range clocks {
		entries := []impl.Entry{}
		for index, clock := range list {
			entries = append(entries, impl.Entry{Clock: slices.Clone(clock), Key: (3*writer + index) % 10, Value: 30*writer + index})
		}
		feeds = append(feeds, entries)
	}
	return feeds
}

// cloneJoins returns a copy of the entries of all writers that shares no memory with them.
func cloneJoins(feeds [][]impl.Entry) [][]impl.Entry {
	copies := [][]impl.Entry{}
	for _, entries := range feeds {
		list := []impl.Entry{}
		for _, e := range entries {
			list = append(list, impl.Entry{Clock: slices.Clone(e.Clock), Key: e.Key, Value: e.Value})
		}
		copies = append(copies, list)
	}
	return copies
}

// equalEntries reports whether two entries are equal.
func equalEntries(e impl.Entry, other impl.Entry) bool {
	return slices.Equal(e.Clock, other.Clock) && e.Key == other.Key && e.Value == other.Value
}

// equalJoins reports whether the entries of all writers are equal.
func equalJoins(feeds [][]impl.Entry, others [][]impl.Entry) bool {
	return slices.EqualFunc(feeds, others, func(list []impl.Entry, other []impl.Entry) bool {
		return slices.EqualFunc(list, other, equalEntries)
	})
}

// placesOf returns the places of all entries.
func placesOf(feeds [][]impl.Entry) []impl.Ref {
	places := []impl.Ref{}
	for writer, entries := range feeds {
		for index := range entries {
			places = append(places, impl.Ref{Writer: writer, Index: index})
		}
	}
	return places
}

// entryAt returns the entry at a place.
func entryAt(feeds [][]impl.Entry, place impl.Ref) impl.Entry {
	return feeds[place.Writer][place.Index]
}

// withEntry returns the entries with a change of the one at a place.
func withEntry(feeds [][]impl.Entry, place impl.Ref, change func(e *impl.Entry)) [][]impl.Entry {
	copies := cloneJoins(feeds)
	change(&copies[place.Writer][place.Index])
	return copies
}

// withCount returns the entries with another number in a clock.
func withCount(feeds [][]impl.Entry, place impl.Ref, writer int, count int) [][]impl.Entry {
	return withEntry(feeds, place, func(e *impl.Entry) { e.Clock[writer] = count })
}

// withLast returns the entries with a further one of a writer, whatever is said of it.
func withLast(feeds [][]impl.Entry, writer int, e impl.Entry) [][]impl.Entry {
	copies := cloneJoins(feeds)
	copies[writer] = append(copies[writer], e)
	return copies
}

// withoutLast returns the entries without the last one of a writer.
func withoutLast(feeds [][]impl.Entry, writer int) [][]impl.Entry {
	copies := cloneJoins(feeds)
	copies[writer] = copies[writer][:len(copies[writer])-1]
	return copies
}

// allKnown returns the numbers of all entries.
func allKnown(feeds [][]impl.Entry) []int {
	known := []int{}
	for _, entries := range feeds {
		known = append(known, len(entries))
	}
	return known
}

// manyEntries returns the number of all entries.
func manyEntries(feeds [][]impl.Entry) int {
	return len(placesOf(feeds))
}

// knownLists returns all lists of numbers of existing entries.
func knownLists(feeds [][]impl.Entry) [][]int {
	lists := [][]int{}
	for first := range len(feeds[0]) + 1 {
		for second := range len(feeds[1]) + 1 {
			for third := range len(feeds[2]) + 1 {
				lists = append(lists, []int{first, second, third})
			}
		}
	}
	return lists
}

// fewKnown returns all lists of numbers of existing entries if they are few. Otherwise, it returns those with none, all but one or all entries of each writer.
func fewKnown(feeds [][]impl.Entry) [][]int {
	return slices.DeleteFunc(knownLists(feeds), func(known []int) bool {
		for writer, count := range known {
			if all := len(feeds[writer]); manyEntries(feeds) > 4 && count > 0 && count < all-1 {
				return true
			}
		}
		return false
	})
}

// madeFurther returns the entries with a further one, by the second implementation. Its key and its value depend on how many there are.
func madeFurther(feeds [][]impl.Entry, writer int, known []int) [][]impl.Entry {
	many := manyEntries(feeds)
	further, ok := plainAppend(feeds, writer, known, many*7%10, many*37%100)
	if !ok {
		panic(fmt.Sprintf("no entry of %d that knows %v can be appended to %v", writer, known, feeds))
	}
	return further
}

// shortJoins returns valid entries of all writers, at most so many, with everything that they may know.
func shortJoins(most int) [][][]impl.Entry {
	lists := [][][]impl.Entry{feedsOf(nil, nil, nil)}
	found := map[string]bool{}
	for first := 0; first < len(lists) && manyEntries(lists[first]) < most; first++ {
		for writer := range impl.Writers {
			for _, known := range knownLists(lists[first]) {
				feeds := madeFurther(lists[first], writer, known)
				if clocks := clocksOf(feeds); !found[clocks] {
					found[clocks] = true
					lists = append(lists, feeds)
				}
			}
		}
	}
	return lists
}

// clocksOf returns the clocks of all entries as a text.
func clocksOf(feeds [][]impl.Entry) string {
	text := ""
	for _, entries := range feeds {
		for _, e := range entries {
			text += fmt.Sprint(e.Clock)
		}
		text += ";"
	}
	return text
}

// knowledge returns what a further entry of a writer knows.
type knowledge func(random *rand.Rand, feeds [][]impl.Entry, writer int) []int

// kindsOfKnowledge are different ways to know entries: none, all, all but the last ones, any, those of one writer, and those of smaller or greater writers.
func kindsOfKnowledge() []knowledge {
	each := func(count func(random *rand.Rand, other int, all int, writer int) int) knowledge {
		return func(random *rand.Rand, feeds [][]impl.Entry, writer int) []int {
			known := []int{}
			for other, all := range allKnown(feeds) {
				known = append(known, count(random, other, all, writer))
			}
			return known
		}
	}
	return []knowledge{
		each(func(_ *rand.Rand, _ int, _ int, _ int) int { return 0 }),
		each(func(_ *rand.Rand, _ int, all int, _ int) int { return all }),
		each(func(_ *rand.Rand, _ int, all int, _ int) int { return max(all-1, 0) }),
		each(func(random *rand.Rand, _ int, all int, _ int) int { return random.Intn(all + 1) }),
		each(func(random *rand.Rand, _ int, all int, _ int) int { return all * random.Intn(2) }),
		each(func(_ *rand.Rand, other int, all int, writer int) int {
			if other == (writer+1)%impl.Writers {
				return all
			}
			return 0
		}),
		each(func(_ *rand.Rand, other int, all int, writer int) int {
			if other < writer {
				return all
			}
			return 0
		}),
		each(func(_ *rand.Rand, other int, all int, writer int) int {
			if other > writer {
				return all
			}
			return 0
		}),
	}
}

// turnsOfWriters are different orders in which writers append so many entries each: one after the other, by turns, and at random.
func turnsOfWriters(random *rand.Rand, many []int) [][]int {
	blocks, turns := []int{}, []int{}
	for writer, count := range many {
		blocks = append(blocks, slices.Repeat([]int{writer}, count)...)
	}
	for index := range impl.MaxEntries {
		for writer, count := range many {
			if index < count {
				turns = append(turns, writer)
			}
		}
	}
	mixed := slices.Clone(blocks)
	random.Shuffle(len(mixed), func(a, b int) { mixed[a], mixed[b] = mixed[b], mixed[a] })
	backward, other := slices.Clone(blocks), slices.Clone(turns)
	slices.Reverse(backward)
	slices.Reverse(other)
	return [][]int{blocks, backward, turns, other, mixed}
}

// joinsOf returns valid entries of so many for each writer, one for each kind of knowledge and each order of the writers.
func joinsOf(random *rand.Rand, many []int) [][][]impl.Entry {
	lists := [][][]impl.Entry{}
	for _, knows := range kindsOfKnowledge() {
		for _, turns := range turnsOfWriters(random, many) {
			feeds := feedsOf(nil, nil, nil)
			for _, writer := range turns {
				feeds = madeFurther(feeds, writer, knows(random, feeds, writer))
			}
			lists = append(lists, feeds)
		}
	}
	return lists
}

// randomJoins returns valid entries, each of which knows something in a way of its own.
func randomJoins(random *rand.Rand) [][]impl.Entry {
	feeds := feedsOf(nil, nil, nil)
	kinds := kindsOfKnowledge()
	kinds = kinds[random.Intn(len(kinds)):]
	for range random.Intn(impl.Writers*impl.MaxEntries + 1) {
		writer := random.Intn(impl.Writers)
		if len(feeds[writer]) < impl.MaxEntries {
			feeds = madeFurther(feeds, writer, kinds[random.Intn(len(kinds))](random, feeds, writer))
		}
	}
	return feeds
}

// longJoins returns valid entries of more than a few: of one writer, of some and of all, up to MaxEntries, and random ones.
func longJoins() [][][]impl.Entry {
	random := rand.New(rand.NewSource(45))
	lists := [][][]impl.Entry{}
	for _, many := range [][]int{{8, 0, 0}, {0, 8, 0}, {0, 0, 8}, {8, 8, 0}, {0, 8, 8}, {8, 8, 8}, {1, 8, 8}, {7, 8, 1}, {3, 2, 4}} {
		lists = append(lists, joinsOf(random, many)...)
	}
	for range 200 {
		lists = append(lists, randomJoins(random))
	}
	return lists
}

// validJoins returns valid entries of all kinds.
func validJoins() [][][]impl.Entry {
	return append(shortJoins(4), longJoins()...)
}

// fewJoins returns some of the valid entries, for tests that do more with each list.
func fewJoins() [][][]impl.Entry {
	few := shortJoins(3)
	for number, feeds := range longJoins() {
		if number%13 == 0 {
			few = append(few, feeds)
		}
	}
	return few
}

// notWriters are numbers that are no writer, near to the valid ones and far from them.
var notWriters = []int{-1, -2, -impl.Writers, impl.Writers, impl.Writers + 1, 2 * impl.Writers, impl.MaxEntries, 256, 1 << 32, -1 << 32, math.MinInt, math.MaxInt}

// notEntryKeys are numbers that are no key of an entry, and notEntryValues are no value of one.
var (
	notEntryKeys   = []int{-1, -2, -9, 10, 11, 99, 256, 1 << 32, -1 << 32, math.MinInt, math.MaxInt}
	notEntryValues = []int{-1, -2, -99, 100, 101, 255, 256, 1 << 32, -1 << 32, math.MinInt, math.MaxInt}
)

// notPlaces returns places without an entry: of a writer or with an index that does not exist.
func notPlaces(feeds [][]impl.Entry) []impl.Ref {
	places := []impl.Ref{}
	for _, writer := range notWriters {
		places = append(places, impl.Ref{Writer: writer}, impl.Ref{Writer: writer, Index: writer}, impl.Ref{Writer: writer, Index: -1})
	}
	for writer := range impl.Writers {
		many := 0
		if writer < len(feeds) {
			many = len(feeds[writer])
		}
		for _, index := range []int{-1, -2, many, many + 1, impl.MaxEntries, impl.MaxEntries + 1, 256, 1 << 32, -1 << 32, math.MinInt, math.MaxInt} {
			places = append(places, impl.Ref{Writer: writer, Index: index})
		}
	}
	return slices.DeleteFunc(places, func(place impl.Ref) bool { return plainExists(feeds, place) })
}

// notKnown returns known numbers that are refused: too few, too many, negative, or greater than the entries of the writer.
func notKnown(feeds [][]impl.Entry) [][]int {
	all := allKnown(feeds)
	lists := [][]int{nil, {}, all[:1], all[:2], {0}, {0, 0}, append(slices.Clone(all), 0), {0, 0, 0, 0}, make([]int, 24)}
	for writer, count := range all {
		for _, number := range []int{-1, -2, count + 1, count + 2, impl.MaxEntries + 1, 256, 1 << 32, -1 << 32, math.MinInt, math.MaxInt} {
			lists = append(lists, withMember(all, writer, number), withMember([]int{0, 0, 0}, writer, number))
		}
	}
	return lists
}

// checkJoinValid fails the test if JoinValid does not return this.
func checkJoinValid(t *testing.T, feeds [][]impl.Entry, want bool) {
	t.Helper()
	if got := impl.JoinValid(feeds); got != want {
		t.Fatalf("JoinValid of %v is %v", feeds, got)
	}
}

// checkJoinAppend fails the test if JoinAppend does not return these entries and this result.
func checkJoinAppend(t *testing.T, feeds [][]impl.Entry, writer int, known []int, key int, value int, want [][]impl.Entry, wantOk bool) {
	t.Helper()
	if got, ok := impl.JoinAppend(feeds, writer, known, key, value); ok != wantOk || !equalJoins(got, want) {
		t.Fatalf("JoinAppend of %v, %d, %v, %d and %d is %v, %v, not %v, %v", feeds, writer, known, key, value, got, ok, want, wantOk)
	}
}

// checkJoinSees fails the test if JoinSees does not return this.
func checkJoinSees(t *testing.T, feeds [][]impl.Entry, a impl.Ref, b impl.Ref, want bool) {
	t.Helper()
	if got := impl.JoinSees(feeds, a, b); got != want {
		t.Fatalf("JoinSees of %v, %v and %v is %v", feeds, a, b, got)
	}
}

// checkJoinOrder fails the test if JoinOrder does not return these places.
func checkJoinOrder(t *testing.T, feeds [][]impl.Entry, want []impl.Ref) {
	t.Helper()
	if got := impl.JoinOrder(feeds); !slices.Equal(got, want) {
		t.Fatalf("JoinOrder of %v is %v, not %v", feeds, got, want)
	}
}

// checkJoinStable fails the test if JoinStable does not return this number.
func checkJoinStable(t *testing.T, feeds [][]impl.Entry, want int) {
	t.Helper()
	if got := impl.JoinStable(feeds); got != want {
		t.Fatalf("JoinStable of %v is %d, not %d", feeds, got, want)
	}
}

// mustAppend returns the entries with a further one. It fails the test if JoinAppend does.
func mustAppend(t *testing.T, feeds [][]impl.Entry, writer int, known []int, key int, value int) [][]impl.Entry {
	t.Helper()
	further, ok := impl.JoinAppend(feeds, writer, known, key, value)
	if !ok {
		t.Fatalf("JoinAppend of %v, %d, %v, %d and %d fails", feeds, writer, known, key, value)
	}
	return further
}
