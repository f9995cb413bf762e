package tests

import (
	"math/rand"
	"slices"
	"testing"

	"loop.example/feedswarm/impl"
)

// plainGivenValid judges numbers by the document's rule.
func plainGivenValid(given []int) bool {
	for _, number := range given {
		if number < 0 || number > 99 {
			return false
		}
	}
	return len(given) <= 6
}

// plainTurnValid judges a turn by the document's rule.
func plainTurnValid(turn int) bool {
	return turn >= 0 && turn <= 999
}

// plainBest takes the peer with the greatest number, the smallest one of equal ones, and so on up to three times, by the document's rule.
func plainBest(given []int) []int {
	best := []int{}
	for range min(3, len(given)) {
		next := -1
		for peer, number := range given {
			if !slices.Contains(best, peer) && (next < 0 || number > given[next]) {
				next = peer
			}
		}
		best = append(best, next)
	}
	return best
}

// plainByTurns returns the peer that is served by turns, by the document's rule.
func plainByTurns(given []int, turn int) int {
	if !plainGivenValid(given) || !plainTurnValid(turn) || len(given) <= 3 {
		return -1
	}
	others := notServed(given, plainBest(given))
	return others[turn%len(others)]
}

// plainServed returns the peers that are served, by the document's rule.
func plainServed(given []int, turn int) []int {
	served := []int{}
	if !plainGivenValid(given) || !plainTurnValid(turn) {
		return served
	}
	best, byTurns := plainBest(given), plainByTurns(given, turn)
	for peer := range given {
		if slices.Contains(best, peer) || peer == byTurns {
			served = append(served, peer)
		}
	}
	return served
}

// plainGive increases a number by the document's rule.
func plainGive(given []int, peer int) ([]int, bool) {
	if !plainGivenValid(given) || peer < 0 || peer >= len(given) {
		return nil, false
	}
	if given[peer] == 99 {
		return slices.Clone(given), false
	}
	return withMember(given, peer, given[peer]+1), true
}

// plainFade halves numbers by the document's rule.
func plainFade(given []int) []int {
	faded := []int{}
	if !plainGivenValid(given) {
		return faded
	}
	for _, number := range given {
		faded = append(faded, (number-number%2)/2)
	}
	return faded
}

// checkTurnRules fails the test if a function does not follow the document's rules for these numbers in this turn.
func checkTurnRules(t *testing.T, given []int, turn int) {
	t.Helper()
	checkServed(t, given, turn, plainServed(given, turn))
	checkTurn(t, given, turn, plainByTurns(given, turn))
}

// checkGivenRules fails the test if a function does not follow the document's rules for these numbers.
func checkGivenRules(t *testing.T, given []int) {
	t.Helper()
	for turn := -1; turn <= 2*impl.MaxPeers; turn++ {
		checkTurnRules(t, given, turn)
	}
	for turn := impl.MaxTurn - 3; turn <= impl.MaxTurn+1; turn++ {
		checkTurnRules(t, given, turn)
	}
	for peer := -1; peer <= len(given); peer++ {
		want, wantOk := plainGive(given, peer)
		checkGive(t, given, peer, want, wantOk)
	}
	checkFade(t, given, plainFade(given))
}

// checkGivenRefused fails the test if a function accepts invalid numbers, whatever the other arguments are.
func checkGivenRefused(t *testing.T, given []int) {
	t.Helper()
	for _, turn := range append([]int{0, 1, 2, 3, 7, impl.MaxTurn}, notTurns...) {
		checkServed(t, given, turn, nil)
		checkTurn(t, given, turn, -1)
	}
	for _, peer := range append([]int{0, 1, 2, 3, 4, 5, len(given) - 1}, beyondPeers(len(given))...) {
		checkGive(t, given, peer, nil, false)
	}
	checkFade(t, given, nil)
}

func TestChokingOfAllOrdersOfPeers(t *testing.T) {
	for _, given := range validGiven() {
		checkGivenRules(t, given)
	}
}

func TestChokingOfAllTurns(t *testing.T) {
	for many := range impl.MaxPeers + 1 {
		for _, given := range [][]int{
			equalGiven(many, 0), equalGiven(many, 50), equalGiven(many, impl.MaxGiven),
			[]int{5, 4, 3, 2, 1, 0}[:many], []int{0, 1, 2, 3, 4, 5}[:many], []int{3, 3, 9, 3, 0, 9}[:many],
		} {
			for turn := -3; turn <= impl.MaxTurn+3; turn++ {
				checkTurnRules(t, given, turn)
			}
		}
	}
}

func TestChokingOfNoPeers(t *testing.T) {
	for _, none := range [][]int{nil, {}, make([]int, 0, 9)} {
		for _, turn := range slices.Concat(someTurns(), notTurns) {
			checkServed(t, none, turn, nil)
			checkTurn(t, none, turn, -1)
		}
		for _, peer := range beyondPeers(0) {
			checkGive(t, none, peer, nil, false)
		}
		checkFade(t, none, nil)
	}
}

func TestChokingOfOnePeer(t *testing.T) {
	for number := range impl.MaxGiven + 1 {
		one := []int{number}
		for _, turn := range someTurns() {
			checkServed(t, one, turn, []int{0})
			checkTurn(t, one, turn, -1)
		}
		if number < impl.MaxGiven {
			checkGive(t, one, 0, []int{number + 1}, true)
		}
		for _, peer := range beyondPeers(1) {
			checkGive(t, one, peer, nil, false)
		}
		checkFade(t, one, []int{number / 2})
	}
	checkGive(t, []int{impl.MaxGiven}, 0, []int{impl.MaxGiven}, false)
}

// The first peer beyond Served is served in all turns, whoever it is, since there is no other one.
func TestChokingOfServedPeersAndOneMore(t *testing.T) {
	for least := range impl.Served + 1 {
		given := withMember([]int{8, 8, 8, 8}, least, 3)
		for _, turn := range someTurns() {
			checkServed(t, given, turn, []int{0, 1, 2, 3})
			checkTurn(t, given, turn, least)
			checkServed(t, given[:impl.Served], turn, []int{0, 1, 2})
			checkTurn(t, given[:impl.Served], turn, -1)
		}
	}
}

// So many peers from a place on gave a number, all before them more and all behind them less, or the other way round. So the same is given among the best, at the border and among the others.
func TestChokingOfPeersThatGaveTheSame(t *testing.T) {
	for many := range impl.MaxPeers + 1 {
		for place := range many {
			for same := 1; same <= many-place; same++ {
				for _, number := range []int{0, 1, 50, impl.MaxGiven - 1, impl.MaxGiven} {
					more, less := min(number+1, impl.MaxGiven), max(number-1, 0)
					middle, behind := equalGiven(same, number), many-place-same
					checkGivenRules(t, slices.Concat(equalGiven(place, more), middle, equalGiven(behind, less)))
					checkGivenRules(t, slices.Concat(equalGiven(place, less), middle, equalGiven(behind, more)))
					checkGivenRules(t, slices.Concat(equalGiven(place, more), middle, equalGiven(behind, more)))
					checkGivenRules(t, slices.Concat(equalGiven(place, less), middle, equalGiven(behind, less)))
				}
			}
		}
	}
}

func TestChokingOfPeersThatAllGaveTheSame(t *testing.T) {
	for number := range impl.MaxGiven + 1 {
		for many := impl.Served + 1; many <= impl.MaxPeers; many++ {
			given := equalGiven(many, number)
			for _, turn := range someTurns() {
				peer := impl.Served + turn%(many-impl.Served)
				checkTurn(t, given, turn, peer)
				checkServed(t, given, turn, []int{0, 1, 2, peer})
			}
		}
	}
}

// The two peers at the border gave almost the same: the smaller one is among the best unless the greater one gave more.
func TestChokingOfTwoPeersAtTheBorder(t *testing.T) {
	for first := range impl.MaxPeers {
		for second := first + 1; second < impl.MaxPeers; second++ {
			for number := 1; number < impl.MaxGiven; number++ {
				given := equalGiven(impl.MaxPeers, 0)
				ahead := 0
				for peer := range given {
					if peer != first && peer != second && ahead < impl.Served-1 {
						given[peer] = impl.MaxGiven
						ahead++
					}
				}
				given[first] = number
				for _, other := range []int{number - 1, number, number + 1} {
					given[second] = other
					best, beaten := first, second
					if other > number {
						best, beaten = second, first
					}
					turns := []int{}
					for turn := range impl.MaxPeers - impl.Served {
						if !servedByWhatItGave(given, turn, best) {
							t.Fatalf("%d of %v is not served because of what it gave in turn %d", best, given, turn)
						}
						turns = append(turns, impl.ChokeTurn(given, turn))
					}
					if !slices.Contains(turns, beaten) {
						t.Fatalf("%d of %v is not served by turns, but %v are", beaten, given, turns)
					}
				}
			}
		}
	}
}

// A peer that gave nothing is served only by turns if three others gave something, and because of its place if not.
func TestChokingOfAPeerThatGaveNothing(t *testing.T) {
	for _, number := range []int{1, 2, impl.MaxGiven} {
		for peer := range impl.MaxPeers {
			given := withMember(equalGiven(impl.MaxPeers, number), peer, 0)
			others := 0
			for turn := range impl.MaxPeers - impl.Served {
				if servedByWhatItGave(given, turn, peer) {
					t.Fatalf("%d of %v is served because of what it gave in turn %d", peer, given, turn)
				}
				if impl.ChokeTurn(given, turn) != peer {
					others++
				}
				checkTurnRules(t, given, turn)
			}
			if others != impl.MaxPeers-impl.Served-1 {
				t.Fatalf("%d of %v is served by turns besides %d others", peer, given, others)
			}
		}
	}
	checkServed(t, []int{0, 0, 0, 0, 7, 7}, 0, []int{0, 1, 4, 5})
	checkServed(t, []int{0, 0, 0, 7, 7, 7}, 0, []int{0, 3, 4, 5})
	checkServed(t, []int{0, 0, 0, 7, 7, 7}, 1, []int{1, 3, 4, 5})
}

// A peer gives from nothing to MaxGiven, and then no more.
func TestChokeGiveUpToMaxGiven(t *testing.T) {
	for many := 1; many <= impl.MaxPeers; many++ {
		for peer := range many {
			given := equalGiven(many, 0)
			for number := range impl.MaxGiven {
				want := withMember(equalGiven(many, 0), peer, number+1)
				checkGive(t, given, peer, want, true)
				given, _ = impl.ChokeGive(given, peer)
			}
			checkGive(t, given, peer, withMember(equalGiven(many, 0), peer, impl.MaxGiven), false)
		}
	}
}

func TestChokeFadeOfEdgeNumbers(t *testing.T) {
	checkFade(t, []int{0, 1, 2, 3, 98, 99}, []int{0, 0, 1, 1, 49, 49})
	checkFade(t, []int{99, 98, 97, 4, 1, 0}, []int{49, 49, 48, 2, 0, 0})
	checkFade(t, []int{1, 1, 1}, []int{0, 0, 0})
	for many := range impl.MaxPeers + 1 {
		checkFade(t, equalGiven(many, 0), equalGiven(many, 0))
	}
}

func TestChokingOfTooManyPeers(t *testing.T) {
	for _, many := range []int{impl.MaxPeers + 1, impl.MaxPeers + 2, 2 * impl.MaxPeers, 255, 256, 257, 1 << 16} {
		for _, number := range []int{0, 1, 50, impl.MaxGiven, impl.MaxGiven + 1, -1} {
			checkGivenRefused(t, equalGiven(many, number))
		}
	}
	for _, given := range validGiven() {
		if len(given) == impl.MaxPeers {
			checkFade(t, withFurther(given, 0), nil)
			checkServed(t, withFurther(given, 0), 0, nil)
			checkTurn(t, withFurther(given, impl.MaxGiven), 0, -1)
			checkGive(t, withFurther(given, impl.MaxGiven), 0, nil, false)
		}
	}
}

// The invalid number is tried as that of each peer, the first and the last one among them. It is the only reason to refuse.
func TestChokingOfAnInvalidNumber(t *testing.T) {
	for many := 1; many <= impl.MaxPeers; many++ {
		for place := range many {
			for _, invalid := range notGiven {
				for _, others := range []int{0, 1, 50, impl.MaxGiven} {
					checkGivenRefused(t, withMember(equalGiven(many, others), place, invalid))
				}
				checkGivenRefused(t, withMember([]int{5, 0, 9, 2, 7, 0}[:many], place, invalid))
			}
		}
	}
}

func TestChokingOfSeveralInvalidNumbers(t *testing.T) {
	for many := 1; many <= impl.MaxPeers+1; many++ {
		for _, invalid := range notGiven {
			checkGivenRefused(t, equalGiven(many, invalid))
		}
	}
	// Their sum is in the range of valid numbers.
	checkGivenRefused(t, []int{impl.MaxGiven + 1, -1})
	checkGivenRefused(t, []int{-1, impl.MaxGiven + 1, 0, -1})
}

func TestChokingOfInvalidTurns(t *testing.T) {
	for number, given := range validGiven() {
		checkServed(t, given, -1, nil)
		checkTurn(t, given, -1, -1)
		checkServed(t, given, impl.MaxTurn+1, nil)
		checkTurn(t, given, impl.MaxTurn+1, -1)
		if number%20 != 0 {
			continue
		}
		for _, turn := range notTurns {
			checkServed(t, given, turn, nil)
			checkTurn(t, given, turn, -1)
		}
	}
}

// The number of peers is the first number that is no peer, even if there may be more peers.
func TestChokeGiveOfPeersThatDoNotExist(t *testing.T) {
	for _, given := range validGiven() {
		for _, peer := range beyondPeers(len(given)) {
			checkGive(t, given, peer, nil, false)
		}
	}
	for many := range impl.MaxPeers + 1 {
		// What is at its most is refused as well, but only if the peer exists are the numbers kept.
		for _, peer := range beyondPeers(many) {
			checkGive(t, equalGiven(many, impl.MaxGiven), peer, nil, false)
		}
	}
}

// Invalid arguments are checked first: the peer at MaxGiven exists, but another number is invalid.
func TestChokeGiveChecksInvalidNumbersFirst(t *testing.T) {
	for many := 2; many <= impl.MaxPeers; many++ {
		for peer := range many {
			for place := range many {
				if place == peer {
					continue
				}
				for _, invalid := range notGiven {
					checkGive(t, withMember(equalGiven(many, impl.MaxGiven), place, invalid), peer, nil, false)
				}
			}
		}
	}
	for peer := range impl.MaxPeers + 1 {
		checkGive(t, equalGiven(impl.MaxPeers+1, impl.MaxGiven), peer, nil, false)
	}
}

// mixedGiven returns numbers that are valid in most cases, and a little out of range or too many otherwise.
func mixedGiven(random *rand.Rand) []int {
	many := random.Intn(impl.MaxPeers + 1)
	if random.Intn(12) == 0 {
		many = impl.MaxPeers + 1 + random.Intn(3)
	}
	given := randomGiven(random, many, []int{2, 4, 8, impl.MaxGiven + 1}[random.Intn(4)])
	if random.Intn(3) == 0 {
		for place, number := range given {
			given[place] = impl.MaxGiven - number
		}
	}
	if many > 0 && random.Intn(8) == 0 {
		given[random.Intn(many)] = notGiven[random.Intn(len(notGiven))]
	}
	return given
}

func TestChokingFollowsItsRules(t *testing.T) {
	random := rand.New(rand.NewSource(41))
	valid, rounds := 0, 30000
	for range rounds {
		given := mixedGiven(random)
		checkGivenRules(t, given)
		checkTurnRules(t, given, random.Intn(impl.MaxTurn+1))
		checkTurnRules(t, given, notTurns[random.Intn(len(notTurns))])
		if plainGivenValid(given) {
			valid++
		}
	}
	if valid < rounds/2 || valid > rounds*19/20 {
		t.Errorf("%d of %d arguments are valid", valid, rounds)
	}
}

// Peers give and all numbers fade for many turns, so that each result decides on the next argument.
func TestChokingOfManySteps(t *testing.T) {
	random := rand.New(rand.NewSource(42))
	for range 60 {
		given := equalGiven(random.Intn(impl.MaxPeers+1), 0)
		for turn := range impl.MaxTurn + 1 {
			checkTurnRules(t, given, turn)
			want, got := plainFade(given), []int{}
			if len(given) > 0 && random.Intn(40) > 0 {
				peer := random.Intn(1 + random.Intn(len(given)))
				want, _ = plainGive(given, peer)
				got, _ = impl.ChokeGive(given, peer)
			} else {
				got = impl.ChokeFade(given)
			}
			if !slices.Equal(got, want) {
				t.Fatalf("%v become %v, not %v", given, got, want)
			}
			given = got
		}
	}
}
