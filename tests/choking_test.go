package tests

import (
	"slices"
	"testing"

	"loop.example/feedswarm/impl"
)

func TestChokingConstants(t *testing.T) {
	if impl.Served != 3 || impl.MaxGiven != 99 || impl.MaxTurn != 999 {
		t.Errorf("Served is %d, MaxGiven is %d, MaxTurn is %d", impl.Served, impl.MaxGiven, impl.MaxTurn)
	}
}

// The values of this test are written out by the document's rules.
func TestChokingValues(t *testing.T) {
	given := []int{0, 8, 3, 99, 5, 3}
	for turn, peer := range []int{0, 2, 5, 0, 2, 5, 0} {
		checkTurn(t, given, turn, peer)
	}
	checkTurn(t, given, 998, 5)
	checkTurn(t, given, 999, 0)
	checkTurn(t, given, 1000, -1)
	checkTurn(t, given, -1, -1)
	checkServed(t, given, 0, []int{0, 1, 3, 4})
	checkServed(t, given, 1, []int{1, 2, 3, 4})
	checkServed(t, given, 2, []int{1, 3, 4, 5})
	checkServed(t, given, 999, []int{0, 1, 3, 4})
	checkServed(t, given, 1000, nil)
	checkServed(t, given, -1, nil)
	checkGive(t, given, 0, []int{1, 8, 3, 99, 5, 3}, true)
	checkGive(t, given, 5, []int{0, 8, 3, 99, 5, 4}, true)
	checkGive(t, given, 3, given, false)
	checkGive(t, given, 6, nil, false)
	checkGive(t, given, -1, nil, false)
	checkFade(t, given, []int{0, 4, 1, 49, 2, 1})
}

// Of peers that gave the same, the smaller ones are the best, and the greater ones are served by turns. These values, too, are written out by the document's rules.
func TestChokingValuesOfPeersThatGaveTheSame(t *testing.T) {
	for _, c := range []struct {
		given  []int
		best   []int
		others []int
	}{
		{[]int{0, 0, 0, 0, 0, 0}, []int{0, 1, 2}, []int{3, 4, 5}},
		{[]int{99, 99, 99, 99, 99, 99}, []int{0, 1, 2}, []int{3, 4, 5}},
		{[]int{0, 0, 0, 0}, []int{0, 1, 2}, []int{3}},
		{[]int{99, 99, 99, 99, 99}, []int{0, 1, 2}, []int{3, 4}},
		{[]int{7, 7, 7, 7, 7, 8}, []int{0, 1, 5}, []int{2, 3, 4}},
		{[]int{6, 7, 7, 7, 7, 8}, []int{1, 2, 5}, []int{0, 3, 4}},
		{[]int{6, 7, 7, 8, 7, 8}, []int{1, 3, 5}, []int{0, 2, 4}},
		{[]int{1, 1, 5, 5, 5, 1}, []int{2, 3, 4}, []int{0, 1, 5}},
		{[]int{0, 4, 0, 4, 0, 0}, []int{0, 1, 3}, []int{2, 4, 5}},
		{[]int{0, 0, 0, 0, 0, 1}, []int{0, 1, 5}, []int{2, 3, 4}},
		{[]int{2, 2, 3, 3}, []int{0, 2, 3}, []int{1}},
		{[]int{2, 2, 2, 3, 1}, []int{0, 1, 3}, []int{2, 4}},
	} {
		for turn := range 2 * impl.MaxPeers {
			peer := c.others[turn%len(c.others)]
			checkTurn(t, c.given, turn, peer)
			checkServed(t, c.given, turn, slices.Sorted(slices.Values(withFurther(c.best, peer))))
		}
	}
}

func TestPromise100FewPeersAscending(t *testing.T) {
	whole, part := 0, 0
	for _, given := range validGiven() {
		for _, turn := range someTurns() {
			served := impl.ChokeServed(given, turn)
			for place, peer := range served {
				if peer < 0 || peer >= len(given) || place > 0 && served[place-1] >= peer {
					t.Fatalf("ChokeServed of %v and %d is %v", given, turn, served)
				}
			}
			if len(served) > impl.Served+1 || len(given) <= impl.Served+1 && len(served) != len(given) {
				t.Fatalf("ChokeServed of %v and %d is %v, which are %d peers", given, turn, served, len(served))
			}
			if len(served) == len(given) {
				whole++
			} else {
				part++
			}
		}
	}
	if whole < 5000 || part < 5000 {
		t.Errorf("all peers are served only %d times, and a part of them %d times", whole, part)
	}
}

func TestPromise101PeersThatFewGaveAsMuchAs(t *testing.T) {
	best := 0
	for _, given := range validGiven() {
		for _, turn := range someTurns() {
			served := impl.ChokeServed(given, turn)
			for peer := range given {
				if otherPeersThatGaveAsMuch(given, peer) >= impl.Served {
					continue
				}
				if !slices.Contains(served, peer) {
					t.Fatalf("ChokeServed of %v and %d is %v, without %d", given, turn, served, peer)
				}
				best++
			}
		}
	}
	if best < 100000 {
		t.Errorf("only %d peers must be served", best)
	}
}

func TestPromise102PeerByTurnsAndThoseThatGaveAtLeastAsMuch(t *testing.T) {
	compared, equal := 0, 0
	for _, given := range validGiven() {
		if len(given) <= impl.Served {
			continue
		}
		for _, turn := range someTurns() {
			served, byTurns := impl.ChokeServed(given, turn), impl.ChokeTurn(given, turn)
			if !slices.Contains(served, byTurns) {
				t.Fatalf("ChokeServed of %v and %d is %v, without %d", given, turn, served, byTurns)
			}
			for _, other := range notServed(given, served) {
				for _, peer := range served {
					if peer != byTurns && given[peer] < given[other] {
						t.Fatalf("ChokeServed of %v and %d is %v, and %d gave more than %d", given, turn, served, other, peer)
					}
					compared++
					if given[peer] == given[other] {
						equal++
					}
				}
			}
		}
	}
	if compared < 100000 || equal < 10000 {
		t.Errorf("only %d peers are compared, of which %d gave the same", compared, equal)
	}
}

// The turns begin with each one of the first and of the last ones, up to MaxTurn.
func TestPromise103EachPeerIsLetIn(t *testing.T) {
	letIn := 0
	for _, given := range validGiven() {
		for _, first := range someTurns() {
			if first+len(given)-1 > impl.MaxTurn {
				continue
			}
			times := make([]int, len(given))
			for turn := first; turn < first+len(given); turn++ {
				for _, peer := range impl.ChokeServed(given, turn) {
					times[peer]++
				}
			}
			for peer, served := range times {
				if served == 0 {
					t.Fatalf("%d of %v is not served in any of the turns from %d on", peer, given, first)
				}
				if served < len(given) {
					letIn++
				}
			}
		}
	}
	if letIn < 100000 {
		t.Errorf("only %d peers are let in by turns", letIn)
	}
}

func TestPromise104PeersThatGaveNothing(t *testing.T) {
	letIn, left := 0, 0
	for _, given := range validGiven() {
		for peer, number := range given {
			if number > 0 || otherPeersThatGave(given, peer) < impl.Served {
				continue
			}
			for _, turn := range someTurns() {
				if !slices.Contains(impl.ChokeServed(given, turn), peer) {
					left++
					continue
				}
				if impl.ChokeTurn(given, turn) != peer {
					t.Fatalf("%d of %v is served in turn %d", peer, given, turn)
				}
				letIn++
			}
		}
	}
	if letIn < 10000 || left < 10000 {
		t.Errorf("peers that gave nothing are let in only %d times, and left %d times", letIn, left)
	}
}

// turnLater calls a function with valid numbers and two turns, the second one as much later as there are peers beyond Served.
func turnLater(call func(given []int, turn int, later int)) {
	for _, given := range validGiven() {
		beyond := len(given) - impl.Served
		for _, turn := range someTurns() {
			if beyond > 0 && turn+beyond <= impl.MaxTurn {
				call(given, turn, turn+beyond)
			}
		}
	}
}

func TestPromise105PeerByTurnsIsTheSameLater(t *testing.T) {
	turns := 0
	turnLater(func(given []int, turn int, later int) {
		peer := impl.ChokeTurn(given, turn)
		if peer < 0 || peer >= len(given) {
			t.Fatalf("ChokeTurn of %v and %d is %d", given, turn, peer)
		}
		checkTurn(t, given, later, peer)
		turns++
	})
	if turns < 100000 {
		t.Errorf("only %d turns are tried", turns)
	}
}

// Less turns later it is another one, so the number of turns is the least one.
func TestPromise105PeerByTurnsIsAnotherOneBefore(t *testing.T) {
	turnLater(func(given []int, turn int, later int) {
		peer := impl.ChokeTurn(given, turn)
		for between := turn + 1; between < later; between++ {
			if impl.ChokeTurn(given, between) == peer {
				t.Fatalf("ChokeTurn of %v is %d in the turns %d and %d", given, peer, turn, between)
			}
		}
	})
}

// All turns are tried with peers in different orders.
func TestPromise105AllTurns(t *testing.T) {
	for _, c := range []struct {
		given  []int
		others []int
	}{
		{[]int{5, 5, 5, 5}, []int{3}},
		{[]int{1, 2, 3, 4}, []int{0}},
		{[]int{9, 0, 9, 0, 9}, []int{1, 3}},
		{[]int{0, 99, 99, 99, 0}, []int{0, 4}},
		{[]int{6, 5, 4, 3, 2, 1}, []int{3, 4, 5}},
		{[]int{1, 2, 3, 4, 5, 6}, []int{0, 1, 2}},
		{[]int{3, 1, 4, 1, 5, 1}, []int{1, 3, 5}},
	} {
		for turn := range impl.MaxTurn + 1 {
			checkTurn(t, c.given, turn, c.others[turn%len(c.others)])
		}
	}
}

func TestPromise106OneNumberIncreases(t *testing.T) {
	increased := 0
	for _, given := range validGiven() {
		for peer := range given {
			got, ok := impl.ChokeGive(given, peer)
			if !ok {
				continue
			}
			if len(got) != len(given) {
				t.Fatalf("ChokeGive of %v and %d is %v", given, peer, got)
			}
			for other, number := range got {
				want := given[other]
				if other == peer {
					want++
				}
				if number != want {
					t.Fatalf("ChokeGive of %v and %d is %v", given, peer, got)
				}
			}
			increased++
		}
	}
	if increased < 50000 {
		t.Errorf("only %d numbers are increased", increased)
	}
}

// servedByWhatItGave reports whether a peer is served in a turn, and not only by turns.
func servedByWhatItGave(given []int, turn int, peer int) bool {
	return slices.Contains(impl.ChokeServed(given, turn), peer) && impl.ChokeTurn(given, turn) != peer
}

func TestPromise107PeerIsStillServedAfterItGave(t *testing.T) {
	still, border := 0, 0
	for _, given := range validGiven() {
		for peer := range given {
			more, ok := impl.ChokeGive(given, peer)
			if !ok || !servedByWhatItGave(given, 0, peer) {
				continue
			}
			for _, turn := range someTurns() {
				if !servedByWhatItGave(more, turn, peer) {
					t.Fatalf("%d of %v is not served because of what it gave after it gave more, in turn %d", peer, given, turn)
				}
			}
			still++
			if otherPeersThatGaveAsMuch(given, peer) >= impl.Served {
				border++
			}
		}
	}
	if still < 10000 || border < 1000 {
		t.Errorf("only %d peers are still served, of which %d gave as much as others", still, border)
	}
}

// A peer that was not among the best gives until it is, and stays there.
func TestPromise107PeerStaysAmongTheBest(t *testing.T) {
	for number, given := range validGiven() {
		if number%11 != 0 {
			continue
		}
		for peer := range given {
			list, best := given, servedByWhatItGave(given, 0, peer)
			for range impl.MaxGiven - given[peer] {
				more, ok := impl.ChokeGive(list, peer)
				if !ok {
					t.Fatalf("ChokeGive of %v and %d fails", list, peer)
				}
				now := servedByWhatItGave(more, 0, peer)
				if best && !now {
					t.Fatalf("%d is not served any more when it gives and %v become %v", peer, list, more)
				}
				list, best = more, now
			}
		}
	}
}

func TestPromise108AllNumbersAreHalved(t *testing.T) {
	for _, given := range validGiven() {
		faded := impl.ChokeFade(given)
		if len(faded) != len(given) {
			t.Fatalf("ChokeFade of %v is %v", given, faded)
		}
		for peer, half := range faded {
			if rest := given[peer] - half - half; rest != 0 && rest != 1 {
				t.Fatalf("ChokeFade of %v is %v", given, faded)
			}
		}
	}
}

// Each number is tried at the place of each peer.
func TestPromise108EachNumberIsHalved(t *testing.T) {
	for many := 1; many <= impl.MaxPeers; many++ {
		for place := range many {
			want := 0
			for number := range impl.MaxGiven + 1 {
				checkFade(t, withMember(equalGiven(many, 50), place, number), withMember(equalGiven(many, 25), place, want))
				if number%2 == 1 {
					want++
				}
			}
		}
	}
}

// MaxGiven needs all of the seven times.
func TestPromise108SevenTimesGiveZeros(t *testing.T) {
	for _, given := range validGiven() {
		faded := given
		for range 6 {
			faded = impl.ChokeFade(faded)
		}
		for peer, number := range faded {
			if want := given[peer] / 64; number != want {
				t.Fatalf("ChokeFade of %v six times is %v", given, faded)
			}
		}
		checkFade(t, faded, equalGiven(len(given), 0))
	}
	faded := equalGiven(impl.MaxPeers, impl.MaxGiven)
	for _, want := range []int{49, 24, 12, 6, 3, 1, 0, 0} {
		checkFade(t, faded, equalGiven(impl.MaxPeers, want))
		faded = impl.ChokeFade(faded)
	}
}

func TestPromise109PeersThatGaveAsMuchAfterFading(t *testing.T) {
	more, equal := 0, 0
	for _, given := range validGiven() {
		faded := impl.ChokeFade(given)
		for peer := range given {
			for other := range given {
				if given[peer] < given[other] {
					continue
				}
				if faded[peer] < faded[other] {
					t.Fatalf("ChokeFade of %v is %v", given, faded)
				}
				if given[peer] > given[other] {
					more++
				} else if peer != other {
					equal++
				}
			}
		}
	}
	if more < 50000 || equal < 50000 {
		t.Errorf("only %d peers gave more than another one, and %d the same", more, equal)
	}
}

func TestPromise109AllPairsOfNumbers(t *testing.T) {
	for first := range impl.MaxGiven + 1 {
		for second := range first + 1 {
			for _, peers := range [][2]int{{0, 1}, {1, 0}, {0, 5}, {5, 0}, {2, 4}} {
				given := equalGiven(impl.MaxPeers, 7)
				given[peers[0]], given[peers[1]] = first, second
				faded := impl.ChokeFade(given)
				if len(faded) != len(given) || faded[peers[0]] < faded[peers[1]] {
					t.Fatalf("ChokeFade of %v is %v", given, faded)
				}
			}
		}
	}
}

func TestPromise110FailsOnlyAtMaxGiven(t *testing.T) {
	failed, succeeded := 0, 0
	for _, given := range validGiven() {
		for peer, number := range given {
			got, ok := impl.ChokeGive(given, peer)
			if ok != (number != impl.MaxGiven) {
				t.Fatalf("ChokeGive of %v and %d is %v, %v", given, peer, got, ok)
			}
			if ok {
				succeeded++
				continue
			}
			if !slices.Equal(got, given) {
				t.Fatalf("ChokeGive of %v and %d fails with %v", given, peer, got)
			}
			failed++
		}
	}
	if failed < 5000 || succeeded < 50000 {
		t.Errorf("ChokeGive fails only %d times and succeeds %d times", failed, succeeded)
	}
}

// Each number is tried at the place of each peer, while others gave nothing or MaxGiven.
func TestPromise110EachNumber(t *testing.T) {
	for many := 1; many <= impl.MaxPeers; many++ {
		for place := range many {
			for _, others := range []int{0, impl.MaxGiven - 1, impl.MaxGiven} {
				for number := range impl.MaxGiven {
					given := withMember(equalGiven(many, others), place, number)
					checkGive(t, given, place, withMember(given, place, number+1), true)
				}
				full := withMember(equalGiven(many, others), place, impl.MaxGiven)
				checkGive(t, full, place, full, false)
			}
		}
	}
}

func TestPromise111ServedPeersAreTheSameLater(t *testing.T) {
	turns, changed := 0, 0
	turnLater(func(given []int, turn int, later int) {
		served := impl.ChokeServed(given, turn)
		if len(served) != impl.Served+1 {
			t.Fatalf("ChokeServed of %v and %d is %v", given, turn, served)
		}
		checkServed(t, given, later, served)
		turns++
		if turn < impl.MaxTurn && !slices.Equal(impl.ChokeServed(given, turn+1), served) {
			changed++
		}
	})
	if turns < 100000 || changed < 100000 {
		t.Errorf("only %d turns are tried, and %d times others are served in the next one", turns, changed)
	}
}

// Up to Served peers there is none to be served by turns, so all turns are the same.
func TestPromise111FewPeersAreServedInAllTurns(t *testing.T) {
	for _, given := range validGiven() {
		if len(given) > impl.Served {
			continue
		}
		for _, turn := range someTurns() {
			checkServed(t, given, turn, []int{0, 1, 2}[:len(given)])
			checkTurn(t, given, turn, -1)
		}
	}
}
