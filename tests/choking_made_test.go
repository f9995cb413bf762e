package tests

import (
	"math"
	"math/rand"
	"slices"
	"testing"

	"loop.example/feedswarm/impl"
)

// levelLists returns all ways in which at most MaxPeers peers can have given less, the same or more: lists of levels from 0 on, none of which is left out.
func levelLists() [][]int {
	lists := [][]int{{}}
	for first := 0; first < len(lists) && len(lists[first]) < impl.MaxPeers; first++ {
		for level := range impl.MaxPeers {
			lists = append(lists, withFurther(lists[first], level))
		}
	}
	return slices.DeleteFunc(lists, func(levels []int) bool {
		used := slices.Compact(slices.Sorted(slices.Values(levels)))
		return len(used) > 0 && used[len(used)-1] != len(used)-1
	})
}

// givenAtLevels returns lists of numbers in the order of the levels: next to 0, next to MaxGiven, and far apart.
func givenAtLevels(levels []int) [][]int {
	low, high, apart := []int{}, []int{}, []int{}
	for _, level := range levels {
		low = append(low, level)
		high = append(high, impl.MaxGiven-slices.Max(levels)+level)
		apart = append(apart, []int{0, 1, 9, 10, 98, 99}[level])
	}
	return [][]int{low, high, apart}
}

// randomGiven returns so many numbers below a limit.
func randomGiven(random *rand.Rand, many int, limit int) []int {
	given := []int{}
	for range many {
		given = append(given, random.Intn(limit))
	}
	return given
}

// validGiven returns valid numbers: of peers in every order, those that gave the same among them, and random ones of every number of peers.
func validGiven() [][]int {
	random := rand.New(rand.NewSource(40))
	lists := [][]int{}
	for _, levels := range levelLists() {
		lists = append(lists, givenAtLevels(levels)...)
	}
	for many := range impl.MaxPeers + 1 {
		for _, limit := range []int{1, 2, 3, 10, impl.MaxGiven + 1} {
			for range 20 {
				lists = append(lists, randomGiven(random, many, limit))
			}
		}
	}
	return lists
}

// fewGiven returns some of the valid numbers, for tests that do more with each list.
func fewGiven() [][]int {
	few := [][]int{}
	for number, given := range validGiven() {
		if len(given) < 4 || number%7 == 0 {
			few = append(few, given)
		}
	}
	return few
}

// equalGiven returns the numbers of so many peers that all gave the same.
func equalGiven(many int, number int) []int {
	return slices.Repeat([]int{number}, many)
}

// someTurns returns turns from the first to the last one: below, at and beyond the number of other peers, and in parts of all lengths up to MaxPeers.
func someTurns() []int {
	turns := []int{}
	for turn := range 2*impl.MaxPeers + 1 {
		turns = append(turns, turn)
	}
	turns = append(turns, 59, 60, 61, 100, 255, 256, 257, 500)
	for turn := impl.MaxTurn - 2*impl.MaxPeers; turn <= impl.MaxTurn; turn++ {
		turns = append(turns, turn)
	}
	return turns
}

// notTurns are numbers that are no turn, near to the valid ones and far from them.
var notTurns = []int{-1, -2, -3, -impl.MaxTurn, impl.MaxTurn + 1, impl.MaxTurn + 2, 2 * impl.MaxTurn, 1 << 16, 1 << 32, -1 << 32, math.MinInt32, math.MaxInt32, math.MinInt, math.MaxInt}

// notGiven are numbers that no peer can have given, near to the valid ones and far from them.
var notGiven = []int{-1, -2, -impl.MaxGiven, impl.MaxGiven + 1, impl.MaxGiven + 2, 2 * impl.MaxGiven, 255, 256, 1 << 32, -1 << 32, math.MinInt32, math.MaxInt32, math.MinInt, math.MaxInt}

// beyondPeers returns numbers that are no peer of so many.
func beyondPeers(many int) []int {
	return append([]int{many, many + 1}, notPeers...)
}

// otherPeersThatGaveAsMuch returns how many other peers gave at least as much as a peer.
func otherPeersThatGaveAsMuch(given []int, peer int) int {
	count := 0
	for other, number := range given {
		if other != peer && number >= given[peer] {
			count++
		}
	}
	return count
}

// otherPeersThatGave returns how many other peers than one gave something.
func otherPeersThatGave(given []int, peer int) int {
	count := 0
	for other, number := range given {
		if other != peer && number > 0 {
			count++
		}
	}
	return count
}

// notServed returns the peers that are not in a list.
func notServed(given []int, served []int) []int {
	peers := []int{}
	for peer := range given {
		if !slices.Contains(served, peer) {
			peers = append(peers, peer)
		}
	}
	return peers
}

// checkServed fails the test if ChokeServed does not return these peers.
func checkServed(t *testing.T, given []int, turn int, want []int) {
	t.Helper()
	if got := impl.ChokeServed(given, turn); !slices.Equal(got, want) {
		t.Fatalf("ChokeServed of %v and %d is %v, not %v", given, turn, got, want)
	}
}

// checkTurn fails the test if ChokeTurn does not return this peer.
func checkTurn(t *testing.T, given []int, turn int, want int) {
	t.Helper()
	if got := impl.ChokeTurn(given, turn); got != want {
		t.Fatalf("ChokeTurn of %v and %d is %d, not %d", given, turn, got, want)
	}
}

// checkGive fails the test if ChokeGive does not return these numbers and this result.
func checkGive(t *testing.T, given []int, peer int, want []int, wantOk bool) {
	t.Helper()
	if got, ok := impl.ChokeGive(given, peer); ok != wantOk || !slices.Equal(got, want) {
		t.Fatalf("ChokeGive of %v and %d is %v, %v, not %v, %v", given, peer, got, ok, want, wantOk)
	}
}

// checkFade fails the test if ChokeFade does not return these numbers.
func checkFade(t *testing.T, given []int, want []int) {
	t.Helper()
	if got := impl.ChokeFade(given); !slices.Equal(got, want) {
		t.Fatalf("ChokeFade of %v is %v, not %v", given, got, want)
	}
}
