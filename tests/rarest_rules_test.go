package tests

import (
	"math"
	"math/rand"
	"slices"
	"testing"

	"loop.example/feedswarm/impl"
)

// plainPeersValid judges the bits of peers by the document's rule.
func plainPeersValid(peers [][]bool) bool {
	longest := 0
	for _, have := range peers {
		longest = max(longest, len(have))
	}
	return len(peers) <= 6 && longest <= 16
}

// plainRareCount counts the peers that have a block by the document's rule.
func plainRareCount(peers [][]bool, block int) int {
	if !plainPeersValid(peers) || block < 0 || block > 15 {
		return -1
	}
	return plainHaving(peers, block)
}

// plainOrder lists the blocks that one peer has, then those that two have, and so on, by the document's rule.
func plainOrder(peers [][]bool, mine []bool) []int {
	order := []int{}
	if !plainPeersValid(peers) || len(mine) > 16 {
		return order
	}
	for count := 1; count <= 6; count++ {
		for block := range 16 {
			if plainHaving(peers, block) == count && !plainSet(mine, block) {
				order = append(order, block)
			}
		}
	}
	return order
}

// plainPick returns the block to pick by the document's rule.
func plainPick(peers [][]bool, mine []bool, peer int) int {
	if peer < 0 || peer >= len(peers) {
		return -1
	}
	for _, block := range plainOrder(peers, mine) {
		if plainSet(peers[peer], block) {
			return block
		}
	}
	return -1
}

// plainWhole returns the smallest number by the document's rule.
func plainWhole(peers [][]bool, length int) int {
	if !plainPeersValid(peers) || length < 0 || length > 16 {
		return -1
	}
	counts := []int{}
	for block := range length {
		counts = append(counts, plainHaving(peers, block))
	}
	if len(counts) == 0 {
		return len(peers)
	}
	return slices.Min(counts)
}

// checkRareRules fails the test if a function does not follow the document's rules for these arguments.
func checkRareRules(t *testing.T, peers [][]bool, mine []bool) {
	t.Helper()
	for number := -1; number <= impl.MaxBlocks+1; number++ {
		checkRareCount(t, peers, number, plainRareCount(peers, number))
		checkRareWhole(t, peers, number, plainWhole(peers, number))
	}
	checkRareOrder(t, peers, mine, plainOrder(peers, mine))
	for peer := -1; peer <= len(peers); peer++ {
		checkRarePick(t, peers, mine, peer, plainPick(peers, mine, peer))
	}
}

// checkPeersRefused fails the test if a function accepts invalid bits of peers, whatever the other arguments are.
func checkPeersRefused(t *testing.T, peers [][]bool) {
	t.Helper()
	for _, number := range append([]int{0, 1, 7, impl.MaxBlocks - 1}, notIndexes...) {
		checkRareCount(t, peers, number, -1)
		checkRareWhole(t, peers, number, -1)
	}
	for _, mine := range [][]bool{nil, {}, {true}, bitsOfNumber(0, 16), bitsOfNumber(-1, 16), bitsOfNumber(0, 17), bitsOfNumber(-1, 17)} {
		checkRareOrder(t, peers, mine, nil)
		for _, peer := range []int{math.MinInt, -1, 0, 1, 5, 6, 7, len(peers) - 1, len(peers), len(peers) + 1, math.MaxInt} {
			checkRarePick(t, peers, mine, peer, -1)
		}
	}
}

func TestRarestOfShortBits(t *testing.T) {
	for _, s := range slices.Concat(shortSwarms(3, 2), shortSwarms(2, 3)) {
		checkRareRules(t, s.peers, s.mine)
	}
}

func TestRarestOfLongBits(t *testing.T) {
	for _, s := range longSwarms() {
		checkRareRules(t, s.peers, s.mine)
	}
}

func TestRarestOfNoPeers(t *testing.T) {
	for _, peers := range [][][]bool{nil, {}, make([][]bool, 0, 9)} {
		for number := range impl.MaxBlocks {
			checkRareCount(t, peers, number, 0)
		}
		for length := range impl.MaxBlocks + 1 {
			checkRareWhole(t, peers, length, 0)
		}
		for _, mine := range bitLists(4) {
			checkRareOrder(t, peers, mine, nil)
			checkRarePick(t, peers, mine, -1, -1)
			checkRarePick(t, peers, mine, 0, -1)
			checkRarePick(t, peers, mine, 1, -1)
		}
	}
}

func TestRarestOfPeersWithoutBits(t *testing.T) {
	for many := 1; many <= impl.MaxPeers; many++ {
		peers := equalPeers(many, 0, false)
		checkRareCount(t, peers, 0, 0)
		checkRareCount(t, peers, impl.MaxBlocks-1, 0)
		checkRareWhole(t, peers, 0, many)
		checkRareWhole(t, peers, 1, 0)
		checkRareWhole(t, peers, impl.MaxBlocks, 0)
		checkRareOrder(t, peers, nil, nil)
		for peer := range many {
			checkRarePick(t, peers, nil, peer, -1)
		}
	}
}

func TestRarestOfAllPeersWithAllBlocks(t *testing.T) {
	peers := equalPeers(impl.MaxPeers, impl.MaxBlocks, true)
	order := []int{0, 1, 2, 3, 4, 5, 6, 7, 8, 9, 10, 11, 12, 13, 14, 15}
	checkRareOrder(t, peers, nil, order)
	for block := range impl.MaxBlocks {
		checkRareCount(t, peers, block, impl.MaxPeers)
		checkRareOrder(t, peers, bitsOfNumber(-1, block), order[block:])
		checkRareOrder(t, peers, bitsOfNumber(^(1<<block), impl.MaxBlocks), []int{block})
		for peer := range impl.MaxPeers {
			checkRarePick(t, peers, bitsOfNumber(-1, block), peer, block)
			checkRarePick(t, peers, bitsOfNumber(^(1<<block), impl.MaxBlocks), peer, block)
		}
	}
	for peer := range impl.MaxPeers {
		checkRarePick(t, peers, bitsOfNumber(-1, impl.MaxBlocks), peer, -1)
	}
	for length := range impl.MaxBlocks + 1 {
		checkRareWhole(t, peers, length, impl.MaxPeers)
	}
}

// Each block is the only one that nobody has, the only one that one peer has, or the only one that all have.
func TestRarestOfBlocksThatAreAlone(t *testing.T) {
	for block := range impl.MaxBlocks {
		for peer := range impl.MaxPeers {
			lacking := equalPeers(impl.MaxPeers, impl.MaxBlocks, true)
			rare := equalPeers(impl.MaxPeers, impl.MaxBlocks, true)
			alone := equalPeers(impl.MaxPeers, impl.MaxBlocks, false)
			for other := range impl.MaxPeers {
				lacking[other][block] = false
				rare[other][block] = other == peer
			}
			alone[peer][block] = true
			for _, peers := range [][][]bool{lacking, rare, alone} {
				checkRareRules(t, peers, nil)
				checkRareRules(t, peers, bitsOfNumber(-1, block))
				checkRareRules(t, peers, bitsOfNumber(^(1<<block), impl.MaxBlocks))
				checkRareRules(t, peers, bitsOfNumber(1<<block, impl.MaxBlocks))
			}
			checkRareWhole(t, lacking, block, impl.MaxPeers)
			checkRareWhole(t, lacking, block+1, 0)
			checkRareWhole(t, rare, block, impl.MaxPeers)
			checkRareWhole(t, rare, block+1, 1)
			checkRarePick(t, rare, nil, peer, block)
			checkRareOrder(t, alone, nil, []int{block})
			checkRarePick(t, alone, nil, peer, block)
			checkRarePick(t, alone, nil, (peer+1)%impl.MaxPeers, -1)
		}
	}
}

// Places beyond the end count as not set, so bits that are not set may be added up to MaxBlocks.
func TestRarestOfBitsWithUnsetOnesBehind(t *testing.T) {
	for _, s := range longSwarms() {
		longer := [][]bool{}
		for _, have := range s.peers {
			longer = append(longer, append(slices.Clone(have), make([]bool, impl.MaxBlocks-len(have))...))
		}
		mine := append(slices.Clone(s.mine), make([]bool, impl.MaxBlocks-len(s.mine))...)
		checkRareOrder(t, longer, mine, impl.RareOrder(s.peers, s.mine))
		for number := range impl.MaxBlocks + 1 {
			checkRareCount(t, longer, number, impl.RareCount(s.peers, number))
			checkRareWhole(t, longer, number, impl.RareWhole(s.peers, number))
		}
		for peer := range longer {
			checkRarePick(t, longer, mine, peer, impl.RarePick(s.peers, s.mine, peer))
		}
	}
}

func TestRareWholeOfMoreBlocksThanBits(t *testing.T) {
	for many := range impl.MaxPeers + 1 {
		for bits := range impl.MaxBlocks + 1 {
			peers := equalPeers(many, bits, true)
			for length := range impl.MaxBlocks + 1 {
				want := many
				if length > bits {
					want = 0
				}
				checkRareWhole(t, peers, length, want)
			}
		}
	}
}

func TestRarestOfTooManyPeers(t *testing.T) {
	for _, many := range []int{impl.MaxPeers + 1, impl.MaxPeers + 2, 2 * impl.MaxPeers, 255, 256, 257} {
		checkPeersRefused(t, make([][]bool, many))
		for _, bits := range []int{0, 1, 7, impl.MaxBlocks, impl.MaxBlocks + 1} {
			checkPeersRefused(t, equalPeers(many, bits, true))
			checkPeersRefused(t, equalPeers(many, bits, false))
		}
	}
	checkPeersRefused(t, make([][]bool, 1<<20))
	for _, peers := range longPeers() {
		if len(peers) == impl.MaxPeers {
			checkPeersRefused(t, append(slices.Clone(peers), nil))
			checkPeersRefused(t, append(slices.Clone(peers), []bool{true}))
		}
	}
}

// The peer with too many bits is tried at each place of the list.
func TestRarestOfAPeerWithTooManyBits(t *testing.T) {
	for number, peers := range longPeers() {
		if number%10 != 0 {
			continue
		}
		for place := range peers {
			for _, long := range longBits() {
				broken := slices.Clone(peers)
				broken[place] = long
				if len(long) < 20 || number%100 == 0 {
					checkPeersRefused(t, broken)
				}
			}
		}
	}
}

// Each peer is tried as the only one with too many bits, and all peers together.
func TestRarestOfPeersWithOneBitTooMany(t *testing.T) {
	for many := 1; many <= impl.MaxPeers; many++ {
		for _, set := range []bool{false, true} {
			checkPeersRefused(t, equalPeers(many, impl.MaxBlocks+1, set))
			for place := range many {
				for _, last := range []bool{false, true} {
					peers := equalPeers(many, impl.MaxBlocks, set)
					peers[place] = append(peers[place], last)
					checkPeersRefused(t, peers)
				}
			}
		}
	}
}

func TestRarestOfAReaderWithTooManyBits(t *testing.T) {
	for number, peers := range longPeers() {
		if number%5 != 0 {
			continue
		}
		for _, mine := range longBits() {
			checkRareOrder(t, peers, mine, nil)
			for peer := -1; peer <= len(peers); peer++ {
				checkRarePick(t, peers, mine, peer, -1)
			}
		}
	}
}

func TestRareCountOfBlocksThatDoNotExist(t *testing.T) {
	for _, peers := range validPeers() {
		for _, block := range notIndexes {
			checkRareCount(t, peers, block, -1)
		}
	}
}

func TestRareWholeOfInvalidLengths(t *testing.T) {
	for _, peers := range validPeers() {
		checkRareWhole(t, peers, impl.MaxBlocks, plainWhole(peers, impl.MaxBlocks))
		for _, length := range []int{-1, -2, -impl.MaxBlocks, impl.MaxBlocks + 1, 2 * impl.MaxBlocks, 256, 1 << 32, -1 << 32, math.MinInt, math.MaxInt} {
			checkRareWhole(t, peers, length, -1)
		}
	}
}

// The number of peers is the first number that is no peer, even if there may be more peers.
func TestRarePickOfPeersThatDoNotExist(t *testing.T) {
	for _, s := range validSwarms() {
		for _, peer := range notPeers {
			checkRarePick(t, s.peers, s.mine, peer, -1)
		}
		for peer := len(s.peers); peer <= impl.MaxPeers; peer++ {
			checkRarePick(t, s.peers, s.mine, peer, -1)
		}
	}
}

// mixedPeers returns peers whose bits are valid in most cases, and a little too many otherwise.
func mixedPeers(random *rand.Rand) [][]bool {
	many := random.Intn(impl.MaxPeers + 1)
	if random.Intn(20) == 0 {
		many = impl.MaxPeers + 1 + random.Intn(3)
	}
	peers := randomPeers(random, many)
	if many > 0 && random.Intn(10) == 0 {
		peers[random.Intn(many)] = bitsOfNumber(random.Int(), impl.MaxBlocks+random.Intn(3))
	}
	return peers
}

func TestRarestFollowTheirRules(t *testing.T) {
	random := rand.New(rand.NewSource(35))
	valid, rounds := 0, 30000
	for range rounds {
		peers, mine := mixedPeers(random), randomBits(random, random.Intn(8))
		if random.Intn(10) == 0 {
			mine = bitsOfNumber(random.Int(), impl.MaxBlocks+random.Intn(3))
		}
		checkRareRules(t, peers, mine)
		if plainPeersValid(peers) && len(mine) <= impl.MaxBlocks {
			valid++
		}
	}
	if valid < rounds/2 || valid > rounds*19/20 {
		t.Errorf("%d of %d arguments are valid", valid, rounds)
	}
}

// A reader picks blocks of peers by turns until it has all that there are, so that each result decides on the next argument.
func TestRarestOfManySteps(t *testing.T) {
	random := rand.New(rand.NewSource(36))
	for range 1000 {
		peers, mine := randomPeers(random, 1+random.Intn(impl.MaxPeers)), []bool{}
		for len(plainOrder(peers, mine)) > 0 {
			peer := random.Intn(len(peers))
			want := plainPick(peers, mine, peer)
			checkRarePick(t, peers, mine, peer, want)
			if want < 0 {
				continue
			}
			mine = withBlock(mine, want)
			if random.Intn(3) == 0 {
				// What the reader has got is passed on.
				other := random.Intn(len(peers))
				peers[other] = withBlock(peers[other], want)
			}
			checkRareOrder(t, peers, mine, plainOrder(peers, mine))
		}
	}
}
