package tests

import (
	"math"
	"math/rand"
	"slices"
	"testing"

	"loop.example/feedswarm/impl"
)

// allAsks returns all valid requests.
func allAsks() []impl.Ask {
	asks := []impl.Ask{}
	for peer := range impl.MaxPeers {
		for block := range impl.MaxBlocks {
			asks = append(asks, impl.Ask{Peer: peer, Block: block})
		}
	}
	return asks
}

// asksOf returns the requests for each of the blocks to each of the peers.
func asksOf(peers []int, blocks []int) []impl.Ask {
	asks := []impl.Ask{}
	for _, peer := range peers {
		for _, block := range blocks {
			asks = append(asks, impl.Ask{Peer: peer, Block: block})
		}
	}
	return asks
}

// askLists returns all lists of at most so many of these requests, in every order, each any number of times.
func askLists(asks []impl.Ask, most int) [][]impl.Ask {
	lists := [][]impl.Ask{{}}
	for first := 0; first < len(lists) && len(lists[first]) < most; first++ {
		for _, a := range asks {
			lists = append(lists, append(slices.Clone(lists[first]), a))
		}
	}
	return lists
}

// countAsks returns how many requests are to a peer and how many for a block.
func countAsks(list []impl.Ask, peer int, block int) (int, int) {
	toPeer, forBlock := 0, 0
	for _, a := range list {
		if a.Peer == peer {
			toPeer++
		}
		if a.Block == block {
			forBlock++
		}
	}
	return toPeer, forBlock
}

// randomWindow returns as many valid requests as there can be, in random order.
func randomWindow(random *rand.Rand) []impl.Ask {
	asks := allAsks()
	list := []impl.Ask{}
	for _, place := range random.Perm(len(asks)) {
		a := asks[place]
		toPeer, forBlock := countAsks(list, a.Peer, a.Block)
		if toPeer < impl.MaxAsked && forBlock < impl.MaxTwice {
			list = append(list, a)
		}
	}
	return list
}

// fullWindows returns valid lists with MaxAsked requests to each peer.
func fullWindows() [][]impl.Ask {
	random := rand.New(rand.NewSource(29))
	makers := []func(place int) impl.Ask{
		// One peer after the other, and two blocks requested twice.
		func(place int) impl.Ask {
			return impl.Ask{Peer: place / impl.MaxAsked, Block: place % impl.MaxBlocks}
		},
		func(place int) impl.Ask {
			return impl.Ask{Peer: 5 - place%6, Block: 15 - place%impl.MaxBlocks}
		},
		// Each block twice: one request directly behind the other, or far behind it.
		func(place int) impl.Ask { return impl.Ask{Peer: place % 6, Block: place / 2} },
		func(place int) impl.Ask { return impl.Ask{Peer: place % 6, Block: 15 - place%9} },
	}
	windows := [][]impl.Ask{}
	for _, maker := range makers {
		list := []impl.Ask{}
		for place := range impl.MaxPeers * impl.MaxAsked {
			list = append(list, maker(place))
		}
		windows = append(windows, list)
	}
	for range 8 {
		windows = append(windows, randomWindow(random))
	}
	return windows
}

// validWindows returns valid lists of requests: short ones of a few peers and blocks in every order, and longer ones of every number.
func validWindows() [][]impl.Ask {
	short := askLists(asksOf([]int{0, 1, 5}, []int{0, 7, 15}), 3)
	short = append(short, askLists(asksOf([]int{0, 5}, []int{0, 1, 14, 15}), 3)...)
	windows := slices.DeleteFunc(short, func(list []impl.Ask) bool { return !plainWindowValid(list) })
	for _, list := range fullWindows() {
		for n := range len(list) + 1 {
			windows = append(windows, list[:n])
		}
	}
	return windows
}

// notPeers are numbers that are no peer, near to the valid ones and far from them.
var notPeers = []int{-1, -2, -impl.MaxPeers, impl.MaxPeers, impl.MaxPeers + 1, 2 * impl.MaxPeers, 256, 1 << 32, -1 << 32, math.MinInt, math.MaxInt}

// invalidAsks returns requests with an invalid peer, an invalid block, or both.
func invalidAsks() []impl.Ask {
	asks := []impl.Ask{}
	for _, peer := range notPeers {
		asks = append(asks, asksOf([]int{peer}, []int{0, 7, impl.MaxBlocks - 1, -1, impl.MaxBlocks})...)
	}
	for _, block := range notIndexes {
		asks = append(asks, asksOf([]int{0, 3, impl.MaxPeers - 1}, []int{block})...)
	}
	return asks
}

// askAt returns a copy of a list with one request more at a place.
func askAt(list []impl.Ask, place int, a impl.Ask) []impl.Ask {
	return slices.Insert(slices.Clone(list), place, a)
}

// checkWindow fails the test if WindowAsk does not return these requests and this result.
func checkWindow(t *testing.T, list []impl.Ask, a impl.Ask, end bool, want []impl.Ask, wantOk bool) {
	t.Helper()
	if got, ok := impl.WindowAsk(list, a, end); ok != wantOk || !slices.Equal(got, want) {
		t.Fatalf("WindowAsk of %v, %v and %v is %v, %v, not %v, %v", list, a, end, got, ok, want, wantOk)
	}
}

// checkGot fails the test if WindowGot does not return these requests and this number.
func checkGot(t *testing.T, list []impl.Ask, a impl.Ask, want []impl.Ask, wantNumber int) {
	t.Helper()
	if got, number := impl.WindowGot(list, a); number != wantNumber || !slices.Equal(got, want) {
		t.Fatalf("WindowGot of %v and %v is %v, %d, not %v, %d", list, a, got, number, want, wantNumber)
	}
}

// checkDrop fails the test if WindowDrop does not return these requests and this number.
func checkDrop(t *testing.T, list []impl.Ask, peer int, want []impl.Ask, wantNumber int) {
	t.Helper()
	if got, number := impl.WindowDrop(list, peer); number != wantNumber || !slices.Equal(got, want) {
		t.Fatalf("WindowDrop of %v and %d is %v, %d, not %v, %d", list, peer, got, number, want, wantNumber)
	}
}

// checkRoom fails the test if WindowRoom does not return this number.
func checkRoom(t *testing.T, list []impl.Ask, peer int, want int) {
	t.Helper()
	if got := impl.WindowRoom(list, peer); got != want {
		t.Fatalf("WindowRoom of %v and %d is %d, not %d", list, peer, got, want)
	}
}
