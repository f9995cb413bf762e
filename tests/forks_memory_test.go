package tests

import (
	"math/rand"
	"slices"
	"testing"

	"loop.example/feedswarm/impl"
)

// roomyForks returns proofs that lie within larger memory, which has right proofs of another writer, and all of it.
func roomyForks(list []impl.Fork) ([]impl.Fork, []impl.Fork) {
	around := []impl.Fork{forkOf(123, 1, 2, 3)}
	whole := slices.Concat(around, list, slices.Repeat(around, 20))
	return whole[1 : 1+len(list)], whole
}

// forkLists returns lists of right and wrong proofs of several lengths.
func forkLists() [][]impl.Fork {
	random := rand.New(rand.NewSource(23))
	lists := [][]impl.Fork{nil, {}, {{}}}
	for _, right := range rightForks() {
		lists = append(lists, []impl.Fork{right.fork})
	}
	for many := range 40 {
		lists = append(lists, mixedForks(random, many))
	}
	return lists
}

// What lies around the proofs is neither read nor changed, and neither are the proofs changed.
func TestForkNamedKeepsItsArguments(t *testing.T) {
	for _, list := range forkLists() {
		forks, whole := roomyForks(list)
		before := slices.Clone(whole)
		checkNamed(t, forks, plainNamed(list))
		if !slices.Equal(whole, before) {
			t.Fatalf("the proofs %#v are changed to %#v", before, whole)
		}
	}
}

func TestForkNamedResultsShareNoMemory(t *testing.T) {
	for _, list := range forkLists() {
		forks, whole := roomyForks(list)
		before := slices.Clone(whole)
		checkOwnMemory(t, "ForkNamed", func() []int { return impl.ForkNamed(forks) }, -9)
		if !slices.Equal(whole, before) {
			t.Fatalf("the result of ForkNamed shares memory with its argument %#v", list)
		}
	}
}

// A later change of the proofs must not be seen in a result.
func TestForkNamedResultsKeepNoArguments(t *testing.T) {
	for _, list := range forkLists() {
		forks := slices.Clone(list)
		got := impl.ForkNamed(forks)
		clear(forks)
		if !slices.Equal(got, plainNamed(list)) {
			t.Fatalf("the result of ForkNamed of %#v becomes %#v", list, got)
		}
	}
}

// The order of a map differs from one range over it to the next one, so it would be seen in one of many calls.
func TestForkNamedIsTheSameInEachCall(t *testing.T) {
	for _, list := range forkLists() {
		want := plainNamed(list)
		for range 50 {
			checkNamed(t, list, want)
		}
	}
}

func TestForkMeetKeepsItsArguments(t *testing.T) {
	feeds := memoryFeeds()
	for place, read := range feeds {
		for _, other := range []impl.Feed{forkedFeed(read), feeds[(place+1)%len(feeds)].feed, read.feed} {
			f, unchanged := roomyFeed(read.feed)
			g, otherUnchanged := roomyFeed(other)
			want, ok := plainMeet(read.feed, other)
			checkMeet(t, f, g, want, ok)
			checkMeet(t, f, g, want, ok)
			if !unchanged() || !otherUnchanged() {
				t.Fatalf("ForkMeet changes its arguments %#v and %#v", read.feed, other)
			}
		}
		// One feed as both arguments shares all its memory with itself.
		f, unchanged := roomyFeed(read.feed)
		checkMeet(t, f, f, impl.Fork{}, false)
		if !unchanged() {
			t.Fatalf("ForkMeet changes its arguments %#v", read.feed)
		}
	}
}

// Feeds without blocks are tried with all combinations of nil and empty slices.
func TestForksOfNilAndEmptyAreEqual(t *testing.T) {
	checkNamed(t, nil, nil)
	checkNamed(t, []impl.Fork{}, nil)
	feeds := []impl.Feed{}
	for _, head := range []impl.Head{{}, signedBy(7, 0, 0), signedBy(7, 0, 5), {Sign: 1}} {
		for _, blocks := range [][]string{nil, {}} {
			for _, have := range [][]bool{nil, {}} {
				feeds = append(feeds, impl.Feed{Public: 35, Head: head, Blocks: blocks, Have: have})
			}
		}
	}
	for _, f := range feeds {
		for _, g := range feeds {
			want, ok := plainMeet(impl.Feed{Public: 35, Head: f.Head}, impl.Feed{Public: 35, Head: g.Head})
			checkMeet(t, f, g, want, ok)
		}
	}
}
