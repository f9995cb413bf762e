package tests

import (
	"slices"
	"testing"

	"loop.example/feedswarm/impl"
)

func TestRequestConstants(t *testing.T) {
	if impl.MaxPeers != 6 || impl.MaxAsked != 3 || impl.MaxTwice != 2 {
		t.Errorf("MaxPeers is %d, MaxAsked is %d, MaxTwice is %d", impl.MaxPeers, impl.MaxAsked, impl.MaxTwice)
	}
}

// The values of this test are written out by the document's rules.
func TestRequestValues(t *testing.T) {
	a, b, c, d := impl.Ask{Peer: 1, Block: 4}, impl.Ask{Peer: 2, Block: 4}, impl.Ask{Peer: 1, Block: 0}, impl.Ask{Peer: 1, Block: 15}
	list := []impl.Ask{a, c, b}
	checkWindow(t, nil, a, false, []impl.Ask{a}, true)
	checkWindow(t, []impl.Ask{a}, a, false, []impl.Ask{a}, false)
	checkWindow(t, []impl.Ask{a}, a, true, []impl.Ask{a}, false)
	checkWindow(t, []impl.Ask{a, c}, b, false, []impl.Ask{a, c}, false)
	checkWindow(t, []impl.Ask{a, c}, b, true, list, true)
	checkWindow(t, list, impl.Ask{Peer: 3, Block: 4}, true, list, false)
	checkWindow(t, list, impl.Ask{Peer: 3, Block: 5}, false, []impl.Ask{a, c, b, {Peer: 3, Block: 5}}, true)
	checkWindow(t, list, d, false, []impl.Ask{a, c, b, d}, true)
	checkWindow(t, []impl.Ask{a, c, b, d}, impl.Ask{Peer: 1, Block: 3}, true, []impl.Ask{a, c, b, d}, false)
	checkWindow(t, list, impl.Ask{Peer: 6, Block: 4}, true, nil, false)
	checkGot(t, list, a, []impl.Ask{c}, 1)
	checkGot(t, list, b, []impl.Ask{c}, 1)
	checkGot(t, list, c, []impl.Ask{a, b}, 0)
	checkGot(t, list, impl.Ask{Peer: 0, Block: 4}, list, -1)
	checkGot(t, list, d, list, -1)
	checkGot(t, nil, a, nil, -1)
	checkDrop(t, list, 1, []impl.Ask{b}, 2)
	checkDrop(t, list, 2, []impl.Ask{a, c}, 1)
	checkDrop(t, list, 0, list, 0)
	checkDrop(t, list, -1, nil, -1)
	checkDrop(t, nil, 5, nil, 0)
	checkRoom(t, list, 1, 1)
	checkRoom(t, list, 2, 2)
	checkRoom(t, list, 5, 3)
	checkRoom(t, list, 6, -1)
	checkRoom(t, nil, 0, 3)
	checkRoom(t, []impl.Ask{a, c, b, d}, 1, 0)
}

func TestPromise77NewRequestIsTheLastOne(t *testing.T) {
	added := 0
	for _, list := range validWindows() {
		for _, a := range allAsks() {
			for _, end := range []bool{false, true} {
				got, ok := impl.WindowAsk(list, a, end)
				if !ok {
					continue
				}
				if last := len(got) - 1; last != len(list) || got[last] != a || !slices.Equal(got[:last], list) {
					t.Fatalf("WindowAsk of %v, %v and %v is %v", list, a, end, got)
				}
				if !impl.WindowValid(got) || !plainWindowValid(got) {
					t.Fatalf("WindowAsk of %v, %v and %v is %v, which is not valid", list, a, end, got)
				}
				added++
			}
		}
	}
	if added < 50000 {
		t.Errorf("only %d requests are added", added)
	}
}

// A list is filled request by request, from none to as many as there can be, in different orders.
func TestPromise77RequestsAreFilled(t *testing.T) {
	for _, window := range fullWindows() {
		list := []impl.Ask{}
		for place, a := range window {
			got, ok := impl.WindowAsk(list, a, true)
			if !ok || !slices.Equal(got, window[:place+1]) || !impl.WindowValid(got) {
				t.Fatalf("WindowAsk of %v and %v at the end is %v, %v", list, a, got, ok)
			}
			list = got
		}
		if len(list) != impl.MaxPeers*impl.MaxAsked {
			t.Fatalf("%v is not full", list)
		}
	}
}

func TestPromise78SameRequestFails(t *testing.T) {
	added := 0
	for _, list := range validWindows() {
		for _, a := range allAsks() {
			for _, end := range []bool{false, true} {
				got, ok := impl.WindowAsk(list, a, end)
				if !ok {
					continue
				}
				before := slices.Clone(got)
				for _, again := range []bool{false, true} {
					checkWindow(t, got, a, again, before, false)
				}
				added++
			}
		}
	}
	if added < 50000 {
		t.Errorf("only %d requests are added", added)
	}
}

func TestPromise79RequestsFailForThreeReasons(t *testing.T) {
	for _, list := range validWindows() {
		for _, a := range allAsks() {
			toPeer, forBlock := countAsks(list, a.Peer, a.Block)
			ok := !slices.Contains(list, a) && toPeer < impl.MaxAsked
			if _, got := impl.WindowAsk(list, a, false); got != (ok && forBlock < 1) {
				t.Fatalf("WindowAsk of %v and %v before the end is %v", list, a, got)
			}
			if _, got := impl.WindowAsk(list, a, true); got != (ok && forBlock < impl.MaxTwice) {
				t.Fatalf("WindowAsk of %v and %v at the end is %v", list, a, got)
			}
		}
	}
}

// Each reason is the only one: the request is there, although a further one to the peer and for the block would be permitted, and so on.
func TestPromise79EachReasonAlone(t *testing.T) {
	a := impl.Ask{Peer: 5, Block: 0}
	there := []impl.Ask{a}
	checkWindow(t, there, a, true, there, false)
	asked := asksOf([]int{5}, []int{1, 7, 15})
	checkWindow(t, asked, a, false, asked, false)
	checkWindow(t, asked, a, true, asked, false)
	checkWindow(t, asked[:2], a, false, append(asked[:2:2], a), true)
	once := []impl.Ask{{Peer: 0, Block: 0}}
	checkWindow(t, once, a, false, once, false)
	checkWindow(t, once, a, true, append(once, a), true)
	twice := asksOf([]int{0, 1}, []int{0})
	checkWindow(t, twice, a, false, twice, false)
	checkWindow(t, twice, a, true, twice, false)
}

func TestPromise80OneRequestBeforeTheEnd(t *testing.T) {
	added := 0
	for _, list := range validWindows() {
		for _, a := range allAsks() {
			got, ok := impl.WindowAsk(list, a, false)
			if !ok {
				continue
			}
			if _, forBlock := countAsks(got, a.Peer, a.Block); forBlock != 1 {
				t.Fatalf("WindowAsk of %v and %v before the end is %v", list, a, got)
			}
			added++
		}
	}
	if added < 20000 {
		t.Errorf("only %d requests are added", added)
	}
}

func TestPromise81BlockIsNoLongerRequested(t *testing.T) {
	for _, list := range validWindows() {
		for _, a := range list {
			others := slices.DeleteFunc(slices.Clone(list), func(b impl.Ask) bool { return b.Block == a.Block })
			if got, _ := impl.WindowGot(list, a); !slices.Equal(got, others) {
				t.Fatalf("WindowGot of %v and %v is %v", list, a, got)
			}
		}
	}
}

func TestPromise82NumberOfFurtherRequests(t *testing.T) {
	counted := map[int]int{}
	for _, list := range validWindows() {
		for _, a := range list {
			_, forBlock := countAsks(list, a.Peer, a.Block)
			_, number := impl.WindowGot(list, a)
			if number != forBlock-1 || number < 0 || number >= impl.MaxTwice {
				t.Fatalf("WindowGot of %v and %v returns %d", list, a, number)
			}
			counted[number]++
		}
	}
	if counted[0] < 1000 || counted[1] < 1000 {
		t.Errorf("the numbers occur so often: %v", counted)
	}
}

func TestPromise83SecondGotChangesNothing(t *testing.T) {
	for _, list := range validWindows() {
		for _, a := range allAsks() {
			got, _ := impl.WindowGot(list, a)
			before := slices.Clone(got)
			checkGot(t, got, a, before, -1)
			if !slices.Contains(list, a) && !slices.Equal(before, list) {
				t.Fatalf("WindowGot of %v and %v, which is not there, is %v", list, a, before)
			}
		}
	}
}

func TestPromise84PeerIsNoLongerAsked(t *testing.T) {
	for _, list := range validWindows() {
		for peer := range impl.MaxPeers {
			others := slices.DeleteFunc(slices.Clone(list), func(a impl.Ask) bool { return a.Peer == peer })
			checkDrop(t, list, peer, others, len(list)-len(others))
		}
	}
}

func TestPromise85RoomOfEachPeer(t *testing.T) {
	for _, list := range validWindows() {
		for peer := range impl.MaxPeers {
			toPeer, _ := countAsks(list, peer, 0)
			checkRoom(t, list, peer, impl.MaxAsked-toPeer)
		}
	}
}

func TestPromise85RoomDecreasesWithEachRequest(t *testing.T) {
	for _, list := range validWindows() {
		for _, a := range allAsks() {
			got, ok := impl.WindowAsk(list, a, true)
			for peer := range impl.MaxPeers {
				want := impl.WindowRoom(list, peer)
				if ok && peer == a.Peer {
					want--
				}
				if want < 0 || want > impl.MaxAsked {
					t.Fatalf("WindowRoom of %v and %d is %d", list, peer, want)
				}
				checkRoom(t, got, peer, want)
			}
		}
	}
}

func TestPromise86RequestsWithoutOneAndWithOneRepeated(t *testing.T) {
	for _, list := range validWindows() {
		if !impl.WindowValid(list) {
			t.Fatalf("%v is not valid", list)
		}
		for from, a := range list {
			without := slices.Delete(slices.Clone(list), from, from+1)
			if !impl.WindowValid(without) {
				t.Fatalf("%v is not valid", without)
			}
			for place := range len(list) + 1 {
				if repeated := askAt(list, place, a); impl.WindowValid(repeated) {
					t.Fatalf("%v is valid", repeated)
				}
			}
		}
	}
}

func TestPromise87SecondDropRemovesNothing(t *testing.T) {
	for _, list := range validWindows() {
		for peer := range impl.MaxPeers {
			got, _ := impl.WindowDrop(list, peer)
			before := slices.Clone(got)
			checkDrop(t, got, peer, before, 0)
			if toPeer, _ := countAsks(list, peer, 0); len(before) != len(list)-toPeer {
				t.Fatalf("WindowDrop of %v and %d is %v", list, peer, before)
			}
		}
	}
}

func TestPromise88RequestSucceedsAgain(t *testing.T) {
	for _, list := range validWindows() {
		for _, a := range list {
			got, _ := impl.WindowGot(list, a)
			for _, end := range []bool{false, true} {
				checkWindow(t, got, a, end, append(slices.Clone(got), a), true)
			}
		}
	}
}

func TestPromise89RequestBeforeTheEndSucceedsAtTheEnd(t *testing.T) {
	added := 0
	for _, list := range validWindows() {
		for _, a := range allAsks() {
			if got, ok := impl.WindowAsk(list, a, false); ok {
				checkWindow(t, list, a, true, got, true)
				added++
			}
		}
	}
	if added < 20000 {
		t.Errorf("only %d requests are added", added)
	}
}
