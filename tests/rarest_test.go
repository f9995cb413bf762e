package tests

import (
	"math/rand"
	"slices"
	"testing"

	"loop.example/feedswarm/impl"
)

// The values of this test are written out by the document's rules.
func TestRarestValues(t *testing.T) {
	peers := peersOfTexts("##.#", "#..##", "..#", "##")
	for block, want := range []int{3, 2, 1, 2, 1, 0} {
		checkRareCount(t, peers, block, want)
	}
	checkRareCount(t, peers, 15, 0)
	checkRareCount(t, peers, 16, -1)
	checkRareCount(t, peers, -1, -1)
	checkRareOrder(t, peers, nil, []int{2, 4, 1, 3, 0})
	checkRareOrder(t, peers, bitsOfText("..#"), []int{4, 1, 3, 0})
	checkRareOrder(t, peers, bitsOfText("#..#.......#"), []int{2, 4, 1})
	checkRareOrder(t, peers, bitsOfText("#####"), nil)
	checkRarePick(t, peers, nil, 0, 1)
	checkRarePick(t, peers, nil, 1, 4)
	checkRarePick(t, peers, nil, 2, 2)
	checkRarePick(t, peers, nil, 3, 1)
	checkRarePick(t, peers, bitsOfText("..#"), 2, -1)
	checkRarePick(t, peers, bitsOfText(".#..#"), 1, 3)
	checkRarePick(t, peers, nil, 4, -1)
	checkRarePick(t, peers, nil, -1, -1)
	for length, want := range []int{4, 3, 2, 1, 1, 1, 0, 0} {
		checkRareWhole(t, peers, length, want)
	}
	checkRareWhole(t, peers, 16, 0)
	checkRareWhole(t, peers, 17, -1)
	checkRareWhole(t, peers, -1, -1)
}

func TestPromise90NumberOfPeersThatHaveABlock(t *testing.T) {
	counted := map[int]int{}
	for _, peers := range validPeers() {
		for block := range impl.MaxBlocks {
			want := plainHaving(peers, block)
			checkRareCount(t, peers, block, want)
			counted[want]++
		}
	}
	for count := range impl.MaxPeers + 1 {
		if counted[count] < 100 {
			t.Errorf("%d peers have a block only %d times", count, counted[count])
		}
	}
}

// Each set of peers has each block, and has no other one or all others.
func TestPromise90EachSetOfPeers(t *testing.T) {
	for block := range impl.MaxBlocks {
		for set := range 1 << impl.MaxPeers {
			for _, others := range []bool{false, true} {
				peers := equalPeers(impl.MaxPeers, impl.MaxBlocks, others)
				for peer := range peers {
					peers[peer][block] = set>>peer&1 == 1
				}
				checkRareCount(t, peers, block, plainCount(bitsOfNumber(set, impl.MaxPeers)))
			}
		}
	}
}

func TestPromise91RarestComeFirst(t *testing.T) {
	rarer, equal := 0, 0
	for _, s := range validSwarms() {
		order := impl.RareOrder(s.peers, s.mine)
		for place := 1; place < len(order); place++ {
			before, block := order[place-1], order[place]
			first, second := plainHaving(s.peers, before), plainHaving(s.peers, block)
			if first > second || first == second && before >= block {
				t.Fatalf("RareOrder of %v and %v is %v", s.peers, s.mine, order)
			}
			if first < second {
				rarer++
			} else {
				equal++
			}
		}
	}
	if rarer < 5000 || equal < 5000 {
		t.Errorf("only %d times a block is rarer than the next one, and %d times equally rare", rarer, equal)
	}
}

func TestPromise92BlocksThatAreWantedAndThere(t *testing.T) {
	listed := 0
	for _, s := range validSwarms() {
		want := []int{}
		for block := range impl.MaxBlocks {
			if plainHaving(s.peers, block) > 0 && !plainSet(s.mine, block) {
				want = append(want, block)
			}
		}
		order := impl.RareOrder(s.peers, s.mine)
		if got := slices.Sorted(slices.Values(order)); !slices.Equal(got, want) {
			t.Fatalf("RareOrder of %v and %v is %v, with the blocks %v", s.peers, s.mine, order, want)
		}
		listed += len(want)
	}
	if listed < 10000 {
		t.Errorf("only %d blocks are listed", listed)
	}
}

func TestPromise93FirstBlockThatThePeerHas(t *testing.T) {
	found, missed := 0, 0
	for _, s := range validSwarms() {
		order := impl.RareOrder(s.peers, s.mine)
		for peer, have := range s.peers {
			want := -1
			if place := slices.IndexFunc(order, func(block int) bool { return plainSet(have, block) }); place >= 0 {
				want = order[place]
				found++
			} else {
				missed++
			}
			checkRarePick(t, s.peers, s.mine, peer, want)
		}
	}
	if found < 5000 || missed < 5000 {
		t.Errorf("only %d blocks are found, and none %d times", found, missed)
	}
}

func TestPromise94NoBlockOfThePeerIsRarer(t *testing.T) {
	picked := 0
	for _, s := range validSwarms() {
		for peer, have := range s.peers {
			block := impl.RarePick(s.peers, s.mine, peer)
			if block == -1 {
				continue
			}
			if block < 0 || !plainSet(have, block) || plainSet(s.mine, block) {
				t.Fatalf("RarePick of %v, %v and %d is %d", s.peers, s.mine, peer, block)
			}
			for other, set := range have {
				if set && !plainSet(s.mine, other) && plainHaving(s.peers, other) < plainHaving(s.peers, block) {
					t.Fatalf("RarePick of %v, %v and %d is %d, but %d is rarer", s.peers, s.mine, peer, block, other)
				}
			}
			picked++
		}
	}
	if picked < 5000 {
		t.Errorf("only %d blocks are picked", picked)
	}
}

func TestPromise95SmallestNumberOfTheBlocks(t *testing.T) {
	counted := map[int]int{}
	for _, peers := range validPeers() {
		checkRareWhole(t, peers, 0, len(peers))
		for length := 1; length <= impl.MaxBlocks; length++ {
			whole, equal := impl.RareWhole(peers, length), false
			for block := range length {
				count := plainHaving(peers, block)
				if whole > count || impl.RareCount(peers, block) != count {
					t.Fatalf("RareWhole of %v and %d is %d, but %d peers have block %d", peers, length, whole, count, block)
				}
				equal = equal || whole == count
			}
			if !equal {
				t.Fatalf("RareWhole of %v and %d is %d, which no block has", peers, length, whole)
			}
			counted[whole]++
		}
	}
	for whole := range impl.MaxPeers + 1 {
		if counted[whole] < 50 {
			t.Errorf("RareWhole is %d only %d times", whole, counted[whole])
		}
	}
}

// furtherPeers returns the bits of peers that come to others.
func furtherPeers() [][]bool {
	return [][]bool{
		nil, {true}, {false, true}, bitsOfNumber(-1, impl.MaxBlocks), bitsOfNumber(0, impl.MaxBlocks),
		bitsOfNumber(1<<15, impl.MaxBlocks), bitsOfNumber(0x5a5a, impl.MaxBlocks), bitsOfNumber(-1, 7),
	}
}

// The further peer comes at each place of the list.
func TestPromise96FurtherPeerDecreasesNothing(t *testing.T) {
	grown := 0
	for _, peers := range validPeers() {
		if len(peers) == impl.MaxPeers {
			continue
		}
		for _, further := range furtherPeers() {
			for place := range len(peers) + 1 {
				more := peerAt(peers, place, further)
				for block := range impl.MaxBlocks {
					if before, now := impl.RareCount(peers, block), impl.RareCount(more, block); now < before {
						t.Fatalf("RareCount of %d decreases from %v to %v", block, peers, more)
					}
				}
				for length := range impl.MaxBlocks + 1 {
					before, now := impl.RareWhole(peers, length), impl.RareWhole(more, length)
					if now < before {
						t.Fatalf("RareWhole of %d decreases from %v to %v", length, peers, more)
					}
					grown += now - before
				}
			}
		}
	}
	if grown < 5000 {
		t.Errorf("RareWhole grows only by %d", grown)
	}
}

func TestPromise96NoSpaceForAFurtherPeer(t *testing.T) {
	for _, peers := range validPeers() {
		if len(peers) < impl.MaxPeers {
			continue
		}
		for _, further := range furtherPeers() {
			checkRareCount(t, append(slices.Clone(peers), further), 0, -1)
			checkRareWhole(t, append(slices.Clone(peers), further), 0, -1)
		}
	}
}

func TestPromise97WholeReaderWantsNothing(t *testing.T) {
	for _, peers := range validPeers() {
		checkRareOrder(t, peers, slices.Repeat([]bool{true}, impl.MaxBlocks), nil)
	}
}

func TestPromise98OrderWithoutTheGottenBlock(t *testing.T) {
	gotten := 0
	for _, s := range validSwarms() {
		order := impl.RareOrder(s.peers, s.mine)
		for place, block := range order {
			checkRareOrder(t, s.peers, withBlock(s.mine, block), slices.Delete(slices.Clone(order), place, place+1))
			gotten++
		}
	}
	if gotten < 10000 {
		t.Errorf("only %d blocks are gotten", gotten)
	}
}

// The reader gets one block after the other, from any place of the order, until it has all that there are.
func TestPromise98ReaderGetsAllBlocks(t *testing.T) {
	random := rand.New(rand.NewSource(34))
	for _, s := range longSwarms() {
		mine, order := s.mine, impl.RareOrder(s.peers, s.mine)
		for steps := 0; len(order) > 0; steps++ {
			if steps == impl.MaxBlocks {
				t.Fatalf("RareOrder of %v and %v is %v", s.peers, mine, order)
			}
			place := random.Intn(len(order))
			mine = withBlock(mine, order[place])
			order = slices.Delete(order, place, place+1)
			checkRareOrder(t, s.peers, mine, order)
		}
	}
}

func TestPromise99PeersInReverseOrder(t *testing.T) {
	turned := 0
	for _, s := range validSwarms() {
		other := reversed(s.peers)
		checkRareOrder(t, other, s.mine, impl.RareOrder(s.peers, s.mine))
		if !slices.EqualFunc(s.peers, other, slices.Equal[[]bool]) {
			turned++
		}
	}
	if turned < 5000 {
		t.Errorf("only %d lists of peers are different in reverse order", turned)
	}
	for _, peers := range validPeers() {
		for length := range impl.MaxBlocks + 1 {
			checkRareWhole(t, reversed(peers), length, impl.RareWhole(peers, length))
		}
	}
}
