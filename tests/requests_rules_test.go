package tests

import (
	"math"
	"math/rand"
	"slices"
	"testing"

	"loop.example/feedswarm/impl"
)

// plainAskValid judges a request by the document's rule.
func plainAskValid(a impl.Ask) bool {
	return a.Peer >= 0 && a.Peer <= 5 && a.Block >= 0 && a.Block <= 15
}

// plainWindowValid judges requests by the document's rule.
func plainWindowValid(list []impl.Ask) bool {
	asks, peers, blocks := map[impl.Ask]bool{}, map[int]int{}, map[int]int{}
	for _, a := range list {
		if asks[a] || !plainAskValid(a) {
			return false
		}
		asks[a] = true
		peers[a.Peer]++
		blocks[a.Block]++
		if peers[a.Peer] > 3 || blocks[a.Block] > 2 {
			return false
		}
	}
	return true
}

// plainAsk appends a request by the document's rule.
func plainAsk(list []impl.Ask, a impl.Ask, end bool) ([]impl.Ask, bool) {
	if !plainWindowValid(list) || !plainAskValid(a) {
		return nil, false
	}
	longer := append(slices.Clone(list), a)
	_, forBlock := countAsks(longer, a.Peer, a.Block)
	if !plainWindowValid(longer) || !end && forBlock > 1 {
		return list, false
	}
	return longer, true
}

// plainGot removes the requests for a block by the document's rule.
func plainGot(list []impl.Ask, a impl.Ask) ([]impl.Ask, int) {
	if !plainWindowValid(list) || !plainAskValid(a) {
		return nil, -1
	}
	others, there := []impl.Ask{}, false
	for _, b := range list {
		if b == a {
			there = true
		}
		if b.Block != a.Block {
			others = append(others, b)
		}
	}
	if !there {
		return list, -1
	}
	return others, len(list) - len(others) - 1
}

// plainDrop removes the requests to a peer by the document's rule.
func plainDrop(list []impl.Ask, peer int) ([]impl.Ask, int) {
	if !plainWindowValid(list) || peer < 0 || peer > 5 {
		return nil, -1
	}
	others := []impl.Ask{}
	for _, a := range list {
		if a.Peer != peer {
			others = append(others, a)
		}
	}
	return others, len(list) - len(others)
}

// plainRoom returns the room of a peer by the document's rule.
func plainRoom(list []impl.Ask, peer int) int {
	if _, number := plainDrop(list, peer); number >= 0 {
		return 3 - number
	}
	return -1
}

// checkRequestRules fails the test if a function does not follow the document's rules for these arguments.
func checkRequestRules(t *testing.T, list []impl.Ask, a impl.Ask) {
	t.Helper()
	if got := impl.WindowValid(list); got != plainWindowValid(list) {
		t.Fatalf("WindowValid of %v is %v", list, got)
	}
	for _, end := range []bool{false, true} {
		asked, ok := plainAsk(list, a, end)
		checkWindow(t, list, a, end, asked, ok)
	}
	others, number := plainGot(list, a)
	checkGot(t, list, a, others, number)
	others, number = plainDrop(list, a.Peer)
	checkDrop(t, list, a.Peer, others, number)
	checkRoom(t, list, a.Peer, plainRoom(list, a.Peer))
}

// checkRequestsRefused fails the test if a function accepts invalid requests, whatever the other arguments are.
func checkRequestsRefused(t *testing.T, list []impl.Ask) {
	t.Helper()
	if impl.WindowValid(list) {
		t.Fatalf("%v are valid", list)
	}
	further := []impl.Ask{{}, {Peer: 5, Block: 15}, {Peer: 2, Block: 7}, {Peer: -1}, {Block: 16}}
	if len(list) > 0 {
		further = append(further, list[0], list[len(list)/2], list[len(list)-1])
	}
	for _, a := range further {
		checkWindow(t, list, a, false, nil, false)
		checkWindow(t, list, a, true, nil, false)
		checkGot(t, list, a, nil, -1)
	}
	for _, peer := range []int{math.MinInt, -1, 0, 1, 2, 3, 4, 5, impl.MaxPeers, math.MaxInt} {
		checkDrop(t, list, peer, nil, -1)
		checkRoom(t, list, peer, -1)
	}
}

func TestRequestsOfOnePeerAndBlock(t *testing.T) {
	for _, a := range allAsks() {
		if !impl.WindowValid([]impl.Ask{a}) {
			t.Fatalf("%v is not valid", a)
		}
		for _, b := range allAsks() {
			checkRequestRules(t, []impl.Ask{a}, b)
			checkRequestRules(t, nil, b)
		}
	}
}

// All lists are tried, the invalid ones among them.
func TestRequestsOfFewPeersAndBlocks(t *testing.T) {
	universes := [][]impl.Ask{
		asksOf([]int{0, 5}, []int{0, 1, 14, 15}),
		asksOf([]int{0, 1, 3, 5}, []int{0, 15}),
		append(asksOf([]int{2, 4}, []int{3, 8}), impl.Ask{Peer: -1, Block: 3}, impl.Ask{Peer: 6, Block: 3}, impl.Ask{Peer: 2, Block: -1}, impl.Ask{Peer: 2, Block: 16}),
	}
	for _, asks := range universes {
		for _, list := range askLists(asks, 4) {
			for _, a := range asks {
				checkRequestRules(t, list, a)
			}
		}
	}
}

func TestRequestResultsAreValid(t *testing.T) {
	for _, list := range validWindows() {
		for _, a := range allAsks() {
			early, _ := impl.WindowAsk(list, a, false)
			late, _ := impl.WindowAsk(list, a, true)
			got, _ := impl.WindowGot(list, a)
			dropped, _ := impl.WindowDrop(list, a.Peer)
			for _, result := range [][]impl.Ask{early, late, got, dropped} {
				if !impl.WindowValid(result) || !plainWindowValid(result) {
					t.Fatalf("%v becomes %v, which is not valid", list, result)
				}
			}
		}
	}
}

// The invalid request is tried at each place of the list.
func TestRequestsWithAnInvalidOne(t *testing.T) {
	for number, list := range validWindows() {
		if number%5 != 0 {
			continue
		}
		for _, a := range invalidAsks() {
			for place := range len(list) + 1 {
				if broken := askAt(list, place, a); impl.WindowValid(broken) {
					t.Fatalf("%v are valid", broken)
				}
			}
			checkRequestsRefused(t, askAt(list, len(list)/2, a))
		}
	}
}

func TestRequestsThatAreEqual(t *testing.T) {
	for number, list := range validWindows() {
		if number%5 != 0 {
			continue
		}
		for _, a := range list {
			for place := range len(list) + 1 {
				checkRequestsRefused(t, askAt(list, place, a))
			}
		}
	}
}

// Equal requests are found where no other limit is exceeded.
func TestRequestsThatAreEqualAlone(t *testing.T) {
	for _, a := range allAsks() {
		checkRequestsRefused(t, []impl.Ask{a, a})
		other := impl.Ask{Peer: (a.Peer + 1) % impl.MaxPeers, Block: (a.Block + 1) % impl.MaxBlocks}
		checkRequestsRefused(t, []impl.Ask{a, other, a})
		checkRequestsRefused(t, []impl.Ask{other, a, a})
	}
}

// The requests to a peer are spread over a list of requests to others.
func TestTooManyRequestsToOnePeer(t *testing.T) {
	for peer := range impl.MaxPeers {
		others := asksOf([]int{(peer + 1) % impl.MaxPeers, (peer + 5) % impl.MaxPeers}, []int{4, 5})
		for _, blocks := range [][]int{{0, 1, 2, 3}, {15, 14, 13, 12}, {0, 6, 7, 15, 8}} {
			many := asksOf([]int{peer}, blocks)
			checkRequestsRefused(t, many)
			checkRequestsRefused(t, slices.Concat(others, many))
			checkRequestsRefused(t, slices.Concat(many[:1], others, many[1:]))
			checkRequestsRefused(t, slices.Concat(many[:3], others, many[3:]))
			if full := slices.Concat(others[:2], many[:3], others[2:]); !impl.WindowValid(full) {
				t.Fatalf("%v are not valid", full)
			}
		}
	}
}

func TestTooManyRequestsForOneBlock(t *testing.T) {
	for block := range impl.MaxBlocks {
		others := asksOf([]int{0, 3}, []int{(block + 1) % impl.MaxBlocks, (block + 15) % impl.MaxBlocks})
		for _, peers := range [][]int{{0, 1, 2}, {5, 4, 3}, {0, 2, 5, 4}, {0, 1, 2, 3, 4, 5}} {
			many := asksOf(peers, []int{block})
			checkRequestsRefused(t, many)
			checkRequestsRefused(t, slices.Concat(others, many))
			checkRequestsRefused(t, slices.Concat(many[:1], others, many[1:]))
			checkRequestsRefused(t, slices.Concat(many[:2], others, many[2:]))
			if twice := slices.Concat(others[:1], many[:2], others[1:]); !impl.WindowValid(twice) {
				t.Fatalf("%v are not valid", twice)
			}
		}
	}
}

// Lists may be far too long, whether or not their requests are different.
func TestTooManyRequests(t *testing.T) {
	for _, list := range fullWindows() {
		for _, a := range allAsks() {
			checkRequestsRefused(t, append(slices.Clone(list), a))
		}
		checkRequestsRefused(t, slices.Concat(list, list))
	}
	checkRequestsRefused(t, allAsks())
	checkRequestsRefused(t, make([]impl.Ask, 1<<20))
}

// An invalid request is answered by an empty slice, also where another condition holds at once: its peer has MaxAsked requests, or there are as many for its block as are permitted.
func TestRequestThatIsInvalid(t *testing.T) {
	windows := append(validWindows(), asksOf([]int{0}, []int{0, 7, 15}), asksOf([]int{5}, []int{0, 7, 15}))
	for _, list := range windows {
		for _, a := range invalidAsks() {
			checkWindow(t, list, a, false, nil, false)
			checkWindow(t, list, a, true, nil, false)
			checkGot(t, list, a, nil, -1)
		}
	}
}

func TestRequestsOfPeersThatDoNotExist(t *testing.T) {
	for _, list := range validWindows() {
		for _, peer := range notPeers {
			checkDrop(t, list, peer, nil, -1)
			checkRoom(t, list, peer, -1)
		}
	}
}

// The only request of an invalid list is the one that is got, and the only peer is the one that is dropped.
func TestRequestsWhereBothAreInvalid(t *testing.T) {
	for _, a := range invalidAsks() {
		for _, list := range [][]impl.Ask{{a}, {a, {Peer: 1, Block: 2}}, {{Peer: 1, Block: 2}, a}} {
			checkRequestsRefused(t, list)
			checkWindow(t, list, a, true, nil, false)
			checkGot(t, list, a, nil, -1)
			checkDrop(t, list, a.Peer, nil, -1)
			checkRoom(t, list, a.Peer, -1)
		}
	}
}

func TestRequestsOfNilAndEmptyAreEqual(t *testing.T) {
	for _, list := range [][]impl.Ask{nil, {}, make([]impl.Ask, 0, 30)} {
		for _, a := range append(allAsks(), invalidAsks()...) {
			checkRequestRules(t, list, a)
		}
	}
}

// mixedAsk returns a request that is valid in most cases, and near to a valid one otherwise.
func mixedAsk(random *rand.Rand, blocks int) impl.Ask {
	a := impl.Ask{Peer: random.Intn(impl.MaxPeers), Block: random.Intn(blocks)}
	if random.Intn(100) == 0 {
		a.Peer = notPeers[random.Intn(len(notPeers))]
	}
	if random.Intn(100) == 0 {
		a.Block = notIndexes[random.Intn(len(notIndexes))]
	}
	return a
}

func TestRequestsFollowTheirRules(t *testing.T) {
	random := rand.New(rand.NewSource(30))
	valid, rounds := 0, 100000
	for range rounds {
		blocks := 1 + random.Intn(impl.MaxBlocks)
		list := randomWindow(random)
		list = list[:random.Intn(len(list)+1)]
		if random.Intn(3) == 0 {
			list = askAt(list, random.Intn(len(list)+1), mixedAsk(random, blocks))
		}
		checkRequestRules(t, list, mixedAsk(random, blocks))
		if plainWindowValid(list) {
			valid++
		}
	}
	if valid < rounds/2 || valid > rounds*9/10 {
		t.Errorf("%d of %d lists are valid", valid, rounds)
	}
}

// Requests go through many steps, so that each result is an argument of the next step.
func TestRequestsOfManySteps(t *testing.T) {
	random := rand.New(rand.NewSource(31))
	for range 1000 {
		list, want := []impl.Ask{}, []impl.Ask{}
		for range 100 {
			a := impl.Ask{Peer: random.Intn(impl.MaxPeers), Block: random.Intn(impl.MaxBlocks)}
			switch random.Intn(12) {
			case 0:
				list, _ = impl.WindowDrop(list, a.Peer)
				want, _ = plainDrop(want, a.Peer)
			case 1:
				if len(want) > 0 {
					a = want[random.Intn(len(want))]
				}
				list, _ = impl.WindowGot(list, a)
				want, _ = plainGot(want, a)
			default:
				end := random.Intn(2) == 0
				list, _ = impl.WindowAsk(list, a, end)
				want, _ = plainAsk(want, a, end)
			}
			if !slices.Equal(list, want) || !impl.WindowValid(list) {
				t.Fatalf("the requests are %v, not %v", list, want)
			}
		}
	}
}
