package tests

import (
	"slices"
	"testing"

	"loop.example/feedswarm/impl"
)

// roomyAsks returns requests that lie within larger memory, and a function that reports whether all of it is unchanged.
func roomyAsks(list []impl.Ask) ([]impl.Ask, func() bool) {
	around := impl.Ask{Peer: 3, Block: 3}
	whole := slices.Concat([]impl.Ask{around}, list, slices.Repeat([]impl.Ask{around}, 30))
	before := slices.Clone(whole)
	return whole[1 : 1+len(list)], func() bool { return slices.Equal(whole, before) }
}

// requestCall is a call of a function that returns requests.
type requestCall struct {
	name string
	call func(list []impl.Ask) []impl.Ask
}

// requestCalls returns calls that succeed, and such that fail for each reason, as far as the requests permit.
func requestCalls(list []impl.Ask) []requestCall {
	further := append([]impl.Ask{{}, {Peer: 1, Block: 7}, {Peer: 4, Block: 11}, {Peer: 5, Block: 15}, {Peer: -1}, {Block: 16}}, list...)
	calls := []requestCall{}
	for _, a := range further {
		for _, end := range []bool{false, true} {
			calls = append(calls, requestCall{"WindowAsk", func(list []impl.Ask) []impl.Ask {
				got, _ := impl.WindowAsk(list, a, end)
				return got
			}})
		}
		calls = append(calls, requestCall{"WindowGot", func(list []impl.Ask) []impl.Ask {
			got, _ := impl.WindowGot(list, a)
			return got
		}})
	}
	for peer := -1; peer <= impl.MaxPeers; peer++ {
		calls = append(calls, requestCall{"WindowDrop", func(list []impl.Ask) []impl.Ask {
			got, _ := impl.WindowDrop(list, peer)
			return got
		}})
	}
	return calls
}

// memoryWindows returns valid requests, full ones among them, and invalid ones.
func memoryWindows() [][]impl.Ask {
	windows := append([][]impl.Ask{nil, {}}, fullWindows()...)
	for number, list := range validWindows() {
		if number%3 == 0 {
			windows = append(windows, list, append(slices.Clone(list), invalidAsks()[number%len(invalidAsks())]))
		}
	}
	return append(windows, allAsks(), make([]impl.Ask, 30))
}

// What lies around the requests is neither read nor changed, and neither are the requests changed.
func TestRequestsKeepTheirArguments(t *testing.T) {
	for _, plain := range memoryWindows() {
		list, unchanged := roomyAsks(plain)
		for _, c := range requestCalls(plain) {
			if got, want := c.call(list), c.call(slices.Clone(plain)); !slices.Equal(got, want) {
				t.Fatalf("%s of %v is %v or %v", c.name, plain, got, want)
			}
		}
		if impl.WindowValid(list) != plainWindowValid(plain) {
			t.Fatalf("%v are judged in two ways", plain)
		}
		for peer := -1; peer <= impl.MaxPeers; peer++ {
			checkRoom(t, list, peer, plainRoom(plain, peer))
		}
		if !unchanged() {
			t.Fatalf("the requests %v are changed", plain)
		}
	}
}

// Whatever is written into a result, up to its capacity, must be seen neither in the arguments nor in other results.
func TestRequestResultsShareNoMemory(t *testing.T) {
	for _, plain := range memoryWindows() {
		list, unchanged := roomyAsks(plain)
		for _, c := range requestCalls(plain) {
			checkOwnMemory(t, c.name, func() []impl.Ask { return c.call(list) }, impl.Ask{Peer: -9, Block: -9})
		}
		if !unchanged() {
			t.Fatalf("a result shares memory with the requests %v", plain)
		}
	}
}

// The results of a first step are the arguments of a second one: two requests are added to one list, which they must not share.
func TestRequestsOfTwoBranchesShareNoMemory(t *testing.T) {
	for _, plain := range memoryWindows() {
		for _, c := range requestCalls(plain) {
			trunk := c.call(plain)
			before := slices.Clone(trunk)
			firstAsk, secondAsk := impl.Ask{Peer: 1, Block: 2}, impl.Ask{Peer: 2, Block: 9}
			first, firstOk := impl.WindowAsk(trunk, firstAsk, true)
			second, secondOk := impl.WindowAsk(trunk, secondAsk, true)
			wantFirst, wantFirstOk := plainAsk(before, firstAsk, true)
			wantSecond, wantSecondOk := plainAsk(before, secondAsk, true)
			if firstOk != wantFirstOk || secondOk != wantSecondOk || !slices.Equal(first, wantFirst) || !slices.Equal(second, wantSecond) {
				t.Fatalf("%v branches into %v and %v", before, first, second)
			}
			if !slices.Equal(trunk, before) {
				t.Fatalf("%v becomes %v while it branches", before, trunk)
			}
		}
	}
}

// A later change of the requests must not be seen in a result.
func TestRequestResultsKeepNoArguments(t *testing.T) {
	for _, plain := range memoryWindows() {
		for _, c := range requestCalls(plain) {
			list := slices.Clone(plain)
			got := c.call(list)
			want := slices.Clone(got)
			clear(list)
			if !slices.Equal(got, want) {
				t.Fatalf("the result %v of %s of %v changes with it", want, c.name, plain)
			}
		}
	}
}
