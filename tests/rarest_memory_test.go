package tests

import (
	"math"
	"math/rand"
	"slices"
	"testing"

	"loop.example/feedswarm/impl"
)

// roomyPeers returns peers that lie within larger memory, as the bits of each of them do, and a function that reports whether all of it is unchanged. What lies around them is set or not set.
func roomyPeers(peers [][]bool, around bool) ([][]bool, func() bool) {
	strange := slices.Repeat([]bool{around}, impl.MaxBlocks)
	list, wholes, befores := [][]bool{strange}, [][]bool{strange}, [][]bool{slices.Clone(strange)}
	for _, plain := range peers {
		have, whole := roomyBits(plain, around)
		list = append(list, have)
		wholes = append(wholes, whole)
		befores = append(befores, slices.Clone(whole))
	}
	list = append(list, slices.Repeat([][]bool{strange}, 9)...)
	shapes := shapesOf(list)
	return list[1 : 1+len(peers)], func() bool {
		return slices.Equal(shapesOf(list), shapes) && slices.EqualFunc(wholes, befores, slices.Equal[[]bool])
	}
}

// shape is where the bits of a peer lie, how many there are and how much room they have.
type shape struct {
	first *bool
	bits  int
	room  int
}

// shapesOf returns the shapes of all peers of a list.
func shapesOf(list [][]bool) []shape {
	shapes := []shape{}
	for _, have := range list {
		s := shape{nil, len(have), cap(have)}
		if s.room > 0 {
			s.first = &have[:1][0]
		}
		shapes = append(shapes, s)
	}
	return shapes
}

// memorySwarms returns valid swarms of all kinds, and invalid ones for each reason.
func memorySwarms() []swarm {
	random := rand.New(rand.NewSource(37))
	swarms := []swarm{}
	for number, s := range validSwarms() {
		if number%7 == 0 {
			swarms = append(swarms, s, swarm{s.peers, bitsOfNumber(random.Int(), impl.MaxBlocks+1)})
		}
	}
	for range 300 {
		swarms = append(swarms, swarm{mixedPeers(random), randomBits(random, 3)})
	}
	for _, bits := range []int{0, 1, impl.MaxBlocks, impl.MaxBlocks + 1} {
		swarms = append(swarms, swarm{equalPeers(impl.MaxPeers, bits, true), nil}, swarm{equalPeers(impl.MaxPeers+1, bits, true), nil})
	}
	return swarms
}

// clonePeers returns a copy of the bits of all peers.
func clonePeers(peers [][]bool) [][]bool {
	copies := [][]bool{}
	for _, have := range peers {
		copies = append(copies, slices.Clone(have))
	}
	return copies
}

// rareAnswers are all that the functions tell about a swarm.
type rareAnswers struct {
	counts []int
	order  []int
	picks  []int
	wholes []int
}

// rareAnswersOf asks all functions, with invalid numbers, too.
func rareAnswersOf(peers [][]bool, mine []bool) rareAnswers {
	answers := rareAnswers{order: impl.RareOrder(peers, mine)}
	for _, number := range append(notIndexes, 0, 1, 2, 7, 14, 15, 16) {
		answers.counts = append(answers.counts, impl.RareCount(peers, number))
		answers.wholes = append(answers.wholes, impl.RareWhole(peers, number))
	}
	for _, peer := range append(notPeers, 0, 1, 2, 3, 4, 5) {
		answers.picks = append(answers.picks, impl.RarePick(peers, mine, peer))
	}
	return answers
}

// equal reports whether the answers are the same.
func (r rareAnswers) equal(other rareAnswers) bool {
	return slices.Equal(r.counts, other.counts) && slices.Equal(r.order, other.order) && slices.Equal(r.picks, other.picks) && slices.Equal(r.wholes, other.wholes)
}

// rareCall is a call of a function, whose result is written as a list of numbers.
type rareCall struct {
	name string
	call func(peers [][]bool, mine []bool) []int
}

// rareCalls returns calls with valid and invalid numbers.
func rareCalls() []rareCall {
	calls := []rareCall{{"RareOrder", impl.RareOrder}}
	for _, number := range []int{math.MinInt, -1, 0, 1, 7, 15, 16, 17, math.MaxInt} {
		calls = append(calls, rareCall{"RareCount", func(peers [][]bool, mine []bool) []int {
			return []int{impl.RareCount(peers, number)}
		}}, rareCall{"RareWhole", func(peers [][]bool, mine []bool) []int {
			return []int{impl.RareWhole(peers, number)}
		}})
	}
	for _, peer := range []int{-1, 0, 1, 5, 6, 7} {
		calls = append(calls, rareCall{"RarePick", func(peers [][]bool, mine []bool) []int {
			return []int{impl.RarePick(peers, mine, peer)}
		}})
	}
	return calls
}

// What lies around the bits is neither read nor changed, and neither are the bits changed. This is seen after each call, because a later one could take a change back.
func TestRarestKeepTheirArguments(t *testing.T) {
	calls := rareCalls()
	for _, s := range memorySwarms() {
		for _, around := range []bool{false, true} {
			peers, unchanged := roomyPeers(s.peers, around)
			mine, whole := roomyBits(s.mine, around)
			before := slices.Clone(whole)
			for _, c := range calls {
				// The result for a copy, because a change of the swarm itself would already be in what is to be kept.
				want := c.call(clonePeers(s.peers), slices.Clone(s.mine))
				if got := c.call(peers, mine); !slices.Equal(got, want) {
					t.Fatalf("%s of %v and %v returns %v or %v", c.name, s.peers, s.mine, want, got)
				}
				if !unchanged() {
					t.Fatalf("%s changes the peers %v to %v", c.name, s.peers, peers)
				}
				if !slices.Equal(whole, before) {
					t.Fatalf("%s changes the reader %v to %v", c.name, s.mine, mine)
				}
			}
		}
	}
}

// Whatever is written into a result, up to its capacity, must be seen neither in the arguments nor in other results.
func TestRarestResultsShareNoMemory(t *testing.T) {
	for _, s := range memorySwarms() {
		peers, unchanged := roomyPeers(s.peers, true)
		mine, whole := roomyBits(s.mine, true)
		before := slices.Clone(whole)
		for _, mark := range []int{-9, 0, math.MaxInt} {
			checkOwnMemory(t, "RareOrder", func() []int { return impl.RareOrder(peers, mine) }, mark)
		}
		if !unchanged() || !slices.Equal(whole, before) {
			t.Fatalf("a result of %v and %v shares memory with the bits", s.peers, s.mine)
		}
	}
}

// Results of other swarms, of picks among them, must not be seen in a result.
func TestRarestResultsOfOtherSwarmsShareNoMemory(t *testing.T) {
	full := equalPeers(impl.MaxPeers, impl.MaxBlocks, true)
	for _, s := range memorySwarms() {
		order := impl.RareOrder(s.peers, s.mine)
		want := slices.Clone(order)
		for _, other := range [][]int{impl.RareOrder(full, nil), impl.RareOrder(s.peers, nil)} {
			impl.RarePick(full, nil, 0)
			other = other[:cap(other)]
			for place := range other {
				other[place] = -9
			}
		}
		if !slices.Equal(order, want) {
			t.Fatalf("the result %v of %v and %v becomes %v", want, s.peers, s.mine, order)
		}
	}
}

// A later change of the bits must not be seen in a result.
func TestRarestResultsKeepNoArguments(t *testing.T) {
	for _, s := range memorySwarms() {
		peers, _ := roomyPeers(s.peers, false)
		mine := slices.Clone(s.mine)
		order := impl.RareOrder(peers, mine)
		want := slices.Clone(order)
		for _, have := range peers {
			for place := range have {
				have[place] = !have[place]
			}
		}
		clear(peers)
		clear(mine)
		if !slices.Equal(order, want) {
			t.Fatalf("the result %v of %v and %v becomes %v", want, s.peers, s.mine, order)
		}
	}
}

// No state is kept between calls: the answers are the same after those for other swarms, valid and invalid ones.
func TestRarestAnswersAreTheSameLater(t *testing.T) {
	swarms := memorySwarms()
	answers := []rareAnswers{}
	for _, s := range swarms {
		answers = append(answers, rareAnswersOf(s.peers, s.mine))
	}
	for number, s := range slices.Backward(swarms) {
		if got := rareAnswersOf(s.peers, s.mine); !got.equal(answers[number]) {
			t.Fatalf("the answers for %v and %v are %v, and %v later", s.peers, s.mine, answers[number], got)
		}
	}
}

// Several peers may lie in the same memory, as may the reader.
func TestRarestOfPeersInTheSameMemory(t *testing.T) {
	for _, whole := range bitLists(6) {
		before := slices.Clone(whole)
		peers := [][]bool{whole, whole[:len(whole)/2], whole[len(whole)/2:], whole}
		for _, mine := range peers {
			want := rareAnswersOf(clonePeers(peers), slices.Clone(mine))
			if got := rareAnswersOf(peers, mine); !got.equal(want) {
				t.Fatalf("the answers for %v and %v are %v or %v", peers, mine, got, want)
			}
		}
		if !slices.Equal(whole, before) {
			t.Fatalf("the bits %v become %v", before, whole)
		}
	}
}

// emptyBits are bits that are equivalent, since there are none.
func emptyBits() [][]bool {
	return [][]bool{nil, {}, make([]bool, 0, 30), slices.Repeat([]bool{true}, 30)[:0]}
}

// Each peer without bits, and the reader without bits, is replaced by equivalent ones.
func TestRarestOfNilAndEmptyAreEqual(t *testing.T) {
	for _, s := range memorySwarms() {
		want := rareAnswersOf(clonePeers(s.peers), slices.Clone(s.mine))
		for _, empty := range emptyBits() {
			peers, mine := slices.Clone(s.peers), s.mine
			for place, have := range peers {
				if len(have) == 0 {
					peers[place] = empty
				}
			}
			if len(mine) == 0 {
				mine = empty
			}
			if got := rareAnswersOf(peers, mine); !got.equal(want) {
				t.Fatalf("the answers for %v and %v are %v or %v", peers, mine, got, want)
			}
		}
	}
}

// All peers are without bits, each in one of the equivalent ways.
func TestRarestOfPeersThatAreNilOrEmpty(t *testing.T) {
	for _, peers := range peerLists(emptyBits(), 4) {
		want := rareAnswersOf(equalPeers(len(peers), 0, false), nil)
		for _, mine := range emptyBits() {
			if got := rareAnswersOf(peers, mine); !got.equal(want) {
				t.Fatalf("the answers for %v and %v are %v or %v", peers, mine, got, want)
			}
		}
	}
	for _, many := range []int{impl.MaxPeers, impl.MaxPeers + 1} {
		for _, empty := range emptyBits() {
			peers := slices.Repeat([][]bool{empty}, many)
			if got, want := rareAnswersOf(peers, nil), rareAnswersOf(equalPeers(many, 0, false), nil); !got.equal(want) {
				t.Fatalf("the answers for %d peers without bits are %v or %v", many, got, want)
			}
		}
	}
	for _, none := range [][][]bool{nil, {}, equalPeers(9, impl.MaxBlocks, true)[:0]} {
		for _, mine := range emptyBits() {
			if got := rareAnswersOf(none, mine); !got.equal(rareAnswersOf(nil, nil)) {
				t.Fatalf("the answers for no peers are %v", got)
			}
		}
	}
}
