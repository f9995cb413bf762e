package tests

import (
	"math/rand"
	"slices"
	"testing"

	"loop.example/feedswarm/impl"
)

// swarm is the bits of peers, and those of a reader.
type swarm struct {
	peers [][]bool
	mine  []bool
}

// plainHaving returns the number of peers that have a block, by the document's rule.
func plainHaving(peers [][]bool, block int) int {
	count := 0
	for _, have := range peers {
		if plainSet(have, block) {
			count++
		}
	}
	return count
}

// peersOfTexts returns the bits that texts show, a text for each peer.
func peersOfTexts(texts ...string) [][]bool {
	peers := [][]bool{}
	for _, text := range texts {
		peers = append(peers, bitsOfText(text))
	}
	return peers
}

// equalPeers returns so many peers, each with the same number of bits, which are all set or all not set.
func equalPeers(many int, bits int, set bool) [][]bool {
	peers := [][]bool{}
	for range many {
		peers = append(peers, slices.Repeat([]bool{set}, bits))
	}
	return peers
}

// peersHaving returns MaxPeers peers with MaxBlocks bits each, where each block is at so many peers, beginning with a peer of its own.
func peersHaving(many func(block int) int, first func(block int) int) [][]bool {
	peers := equalPeers(impl.MaxPeers, impl.MaxBlocks, false)
	for block := range impl.MaxBlocks {
		for number := range many(block) {
			peers[(first(block)+number)%impl.MaxPeers][block] = true
		}
	}
	return peers
}

// peerLists returns all lists of at most so many peers with these bits, in every order, each any number of times.
func peerLists(bits [][]bool, most int) [][][]bool {
	lists := [][][]bool{{}}
	for first := 0; first < len(lists) && len(lists[first]) < most; first++ {
		for _, have := range bits {
			lists = append(lists, append(slices.Clone(lists[first]), have))
		}
	}
	return lists
}

// shortSwarms returns swarms of all lists of at most so many peers with at most so many bits, and all readers with as many bits.
func shortSwarms(most int, bits int) []swarm {
	swarms := []swarm{}
	for _, peers := range peerLists(bitLists(bits), most) {
		for _, mine := range bitLists(bits) {
			swarms = append(swarms, swarm{peers, mine})
		}
	}
	return swarms
}

// evenPeers returns peers whose blocks follow short rules: all at equally many peers, each at more or at less peers than the one before, and in waves.
func evenPeers() [][][]bool {
	firsts := []func(block int) int{
		func(block int) int { return 0 },
		func(block int) int { return block },
		func(block int) int { return 5 * block },
	}
	numbers := []func(block int) int{
		func(block int) int { return block * 7 / impl.MaxBlocks },
		func(block int) int { return (15 - block) * 7 / impl.MaxBlocks },
		func(block int) int { return block % 7 },
		func(block int) int { return 6 - block%7 },
		func(block int) int { return 1 + 5*(block%2) },
		func(block int) int { return 6 - 5*(block%2) },
		func(block int) int { return block / 15 },
		func(block int) int { return (15 - block) / 15 },
	}
	for many := range impl.MaxPeers + 1 {
		numbers = append(numbers, func(block int) int { return many })
	}
	lists := [][][]bool{}
	for _, number := range numbers {
		for _, first := range firsts {
			lists = append(lists, peersHaving(number, first))
		}
	}
	for many := range impl.MaxPeers + 1 {
		for _, bits := range []int{0, 1, 7, impl.MaxBlocks - 1, impl.MaxBlocks} {
			lists = append(lists, equalPeers(many, bits, true), equalPeers(many, bits, false))
		}
	}
	return lists
}

// randomBits returns at most MaxBlocks bits, of which about so many of seven are set.
func randomBits(random *rand.Rand, set int) []bool {
	list := []bool{}
	for range random.Intn(impl.MaxBlocks + 1) {
		list = append(list, random.Intn(7) < set)
	}
	return list
}

// randomPeers returns so many peers with bits of different lengths.
func randomPeers(random *rand.Rand, many int) [][]bool {
	peers, set := [][]bool{}, 1+random.Intn(7)
	for range many {
		peers = append(peers, randomBits(random, set))
	}
	return peers
}

// readersOf returns the bits of readers: none, whole ones, shorter and longer ones than those of the peers.
func readersOf(random *rand.Rand, peers [][]bool) [][]bool {
	longest := 0
	for _, have := range peers {
		longest = max(longest, len(have))
	}
	number := random.Int()
	return [][]bool{
		nil, bitsOfNumber(number, longest/2), bitsOfNumber(number, longest), bitsOfNumber(number, impl.MaxBlocks),
		bitsOfNumber(0, impl.MaxBlocks), bitsOfNumber(-1, longest/2), bitsOfNumber(-1, longest), bitsOfNumber(-1, impl.MaxBlocks),
		bitsOfNumber(1, 1), bitsOfNumber(1<<15, impl.MaxBlocks), bitsOfNumber(^(1 << 15), impl.MaxBlocks), bitsOfNumber(^1, impl.MaxBlocks),
	}
}

// longPeers returns peers with as many bits as there may be: those of short rules, and random ones of every number.
func longPeers() [][][]bool {
	random := rand.New(rand.NewSource(32))
	lists := evenPeers()
	for many := range impl.MaxPeers + 1 {
		for range 150 {
			lists = append(lists, randomPeers(random, many))
		}
	}
	return lists
}

// longSwarms returns swarms of such peers with different readers.
func longSwarms() []swarm {
	random := rand.New(rand.NewSource(33))
	swarms := []swarm{}
	for _, peers := range longPeers() {
		for _, mine := range readersOf(random, peers) {
			swarms = append(swarms, swarm{peers, mine})
		}
	}
	return swarms
}

// validSwarms returns swarms of few peers with few bits in every way, and of every number of peers and bits.
func validSwarms() []swarm {
	return slices.Concat(shortSwarms(3, 2), shortSwarms(2, 3), longSwarms())
}

// validPeers returns the peers of such swarms.
func validPeers() [][][]bool {
	return slices.Concat(peerLists(bitLists(2), 3), peerLists(bitLists(3), 2), longPeers())
}

// withBlock returns the bits of a reader that has got a block.
func withBlock(mine []bool, block int) []bool {
	longer := slices.Clone(mine)
	for len(longer) <= block {
		longer = append(longer, false)
	}
	longer[block] = true
	return longer
}

// peerAt returns a copy of a list with one peer more at a place.
func peerAt(peers [][]bool, place int, have []bool) [][]bool {
	return slices.Insert(slices.Clone(peers), place, have)
}

// reversed returns the peers in reverse order.
func reversed(peers [][]bool) [][]bool {
	turned := slices.Clone(peers)
	slices.Reverse(turned)
	return turned
}

// checkRareCount fails the test if RareCount does not return this number.
func checkRareCount(t *testing.T, peers [][]bool, block int, want int) {
	t.Helper()
	if got := impl.RareCount(peers, block); got != want {
		t.Fatalf("RareCount of %v and %d is %d, not %d", peers, block, got, want)
	}
}

// checkRareOrder fails the test if RareOrder does not return these blocks.
func checkRareOrder(t *testing.T, peers [][]bool, mine []bool, want []int) {
	t.Helper()
	if got := impl.RareOrder(peers, mine); !slices.Equal(got, want) {
		t.Fatalf("RareOrder of %v and %v is %v, not %v", peers, mine, got, want)
	}
}

// checkRarePick fails the test if RarePick does not return this block.
func checkRarePick(t *testing.T, peers [][]bool, mine []bool, peer int, want int) {
	t.Helper()
	if got := impl.RarePick(peers, mine, peer); got != want {
		t.Fatalf("RarePick of %v, %v and %d is %d, not %d", peers, mine, peer, got, want)
	}
}

// checkRareWhole fails the test if RareWhole does not return this number.
func checkRareWhole(t *testing.T, peers [][]bool, length int, want int) {
	t.Helper()
	if got := impl.RareWhole(peers, length); got != want {
		t.Fatalf("RareWhole of %v and %d is %d, not %d", peers, length, got, want)
	}
}
