package tests

import (
	"math"
	"math/rand"
	"slices"
	"testing"

	"loop.example/feedswarm/impl"
)

// givenCall is a call of a function, whose result is written as a list of numbers.
type givenCall struct {
	name string
	call func(given []int) []int
}

// givenCalls returns calls of the functions that return slices, with valid and invalid turns and peers.
func givenCalls() []givenCall {
	calls := []givenCall{{"ChokeFade", impl.ChokeFade}}
	for _, turn := range []int{math.MinInt, -1, 0, 1, 2, 3, 7, impl.MaxTurn, impl.MaxTurn + 1, math.MaxInt} {
		calls = append(calls, givenCall{"ChokeServed", func(given []int) []int { return impl.ChokeServed(given, turn) }})
	}
	for peer := -1; peer <= impl.MaxPeers; peer++ {
		calls = append(calls, givenCall{"ChokeGive", func(given []int) []int {
			got, _ := impl.ChokeGive(given, peer)
			return got
		}})
	}
	return calls
}

// allGivenCalls returns calls of all functions.
func allGivenCalls() []givenCall {
	calls := givenCalls()
	for _, turn := range []int{-1, 0, 1, 2, 3, 7, impl.MaxTurn, impl.MaxTurn + 1} {
		calls = append(calls, givenCall{"ChokeTurn", func(given []int) []int { return []int{impl.ChokeTurn(given, turn)} }})
	}
	return calls
}

// memoryGiven returns valid numbers of all kinds, and invalid ones for each reason.
func memoryGiven() [][]int {
	random := rand.New(rand.NewSource(43))
	lists := fewGiven()
	for number, given := range fewGiven() {
		if number%5 == 0 && len(given) > 0 {
			invalid := notGiven[number%len(notGiven)]
			lists = append(lists, withMember(given, 0, invalid), withMember(given, len(given)-1, invalid))
		}
	}
	for range 300 {
		lists = append(lists, mixedGiven(random))
	}
	return append(lists, equalGiven(impl.MaxPeers+1, 0), equalGiven(impl.MaxPeers+1, impl.MaxGiven))
}

// givenAnswersOf returns the results of all calls for numbers.
func givenAnswersOf(given []int) [][]int {
	answers := [][]int{}
	for _, c := range allGivenCalls() {
		answers = append(answers, c.call(given))
	}
	return answers
}

// equalAnswers reports whether results are equal.
func equalAnswers(answers [][]int, others [][]int) bool {
	return slices.EqualFunc(answers, others, slices.Equal[[]int])
}

// roomyGiven returns numbers that lie within larger memory, and the whole of it. What lies around them would be valid, too.
func roomyGiven(given []int, around int) ([]int, []int) {
	whole := slices.Concat([]int{around, around}, given, equalGiven(12, around))
	return whole[2 : 2+len(given)], whole
}

// What lies around the numbers is neither read nor changed, and neither are the numbers changed. This is seen after each call, because a later one could take a change back.
func TestChokingKeepsItsArguments(t *testing.T) {
	calls := allGivenCalls()
	for _, plain := range memoryGiven() {
		for _, around := range []int{-7, 0, 50, impl.MaxGiven} {
			given, whole := roomyGiven(plain, around)
			before := slices.Clone(whole)
			for _, c := range calls {
				want := c.call(slices.Clone(plain))
				if got := c.call(given); !slices.Equal(got, want) {
					t.Fatalf("%s of %v returns %v or %v", c.name, plain, want, got)
				}
				if !slices.Equal(whole, before) {
					t.Fatalf("%s changes %v to %v", c.name, before, whole)
				}
			}
		}
	}
}

// Whatever is written into a result, up to its capacity, must be seen neither in the arguments nor in other results.
func TestChokingResultsShareNoMemory(t *testing.T) {
	for _, plain := range memoryGiven() {
		given, whole := roomyGiven(plain, 9)
		before := slices.Clone(whole)
		for _, c := range givenCalls() {
			for _, mark := range []int{-9, 0, math.MaxInt} {
				checkOwnMemory(t, c.name, func() []int { return c.call(given) }, mark)
			}
			if !slices.Equal(whole, before) {
				t.Fatalf("a result of %s shares memory with %v", c.name, plain)
			}
		}
	}
}

// Results of other functions and of other numbers must not be seen in a result.
func TestChokingResultsOfDifferentCallsShareNoMemory(t *testing.T) {
	calls := givenCalls()
	full := []int{1, 2, 3, 4, 5, 6}
	for number, plain := range memoryGiven() {
		if number%10 != 0 {
			continue
		}
		for _, c := range calls {
			got := c.call(plain)
			want := slices.Clone(got)
			for _, other := range calls {
				for _, result := range [][]int{other.call(plain), other.call(full)} {
					result = result[:cap(result)]
					for place := range result {
						result[place] = -9
					}
				}
			}
			if !slices.Equal(got, want) {
				t.Fatalf("the result %v of %s of %v becomes %v", want, c.name, plain, got)
			}
		}
	}
}

// A later change of the numbers must not be seen in a result.
func TestChokingResultsKeepNoArguments(t *testing.T) {
	for _, plain := range memoryGiven() {
		for _, c := range givenCalls() {
			given := slices.Clone(plain)
			got := c.call(given)
			want := slices.Clone(got)
			for place := range given {
				given[place] = -5
			}
			if !slices.Equal(got, want) {
				t.Fatalf("the result %v of %s of %v changes with it", want, c.name, plain)
			}
		}
	}
}

// The results of a first step are the arguments of a second one: two peers give to one list, which they must not share.
func TestChokingOfTwoBranchesSharesNoMemory(t *testing.T) {
	for _, plain := range memoryGiven() {
		for _, c := range givenCalls() {
			trunk := c.call(plain)
			before := slices.Clone(trunk)
			first, firstOk := impl.ChokeGive(trunk, 0)
			second, secondOk := impl.ChokeGive(trunk, len(trunk)-1)
			faded := impl.ChokeFade(trunk)
			wantFirst, wantFirstOk := plainGive(before, 0)
			wantSecond, wantSecondOk := plainGive(before, len(before)-1)
			if firstOk != wantFirstOk || secondOk != wantSecondOk || !slices.Equal(first, wantFirst) || !slices.Equal(second, wantSecond) || !slices.Equal(faded, plainFade(before)) {
				t.Fatalf("%v branches into %v, %v and %v", before, first, second, faded)
			}
			if !slices.Equal(trunk, before) {
				t.Fatalf("%v becomes %v while it branches", before, trunk)
			}
		}
	}
}

// No state is kept between calls: the answers are the same after those for other numbers, valid and invalid ones.
func TestChokingAnswersAreTheSameLater(t *testing.T) {
	lists := memoryGiven()
	answers := [][][]int{}
	for _, given := range lists {
		answers = append(answers, givenAnswersOf(given))
	}
	for number, given := range slices.Backward(lists) {
		if got := givenAnswersOf(given); !equalAnswers(got, answers[number]) {
			t.Fatalf("the answers for %v are %v, and %v later", given, answers[number], got)
		}
	}
}

// The turn is only that of the argument: it makes no difference which turns were asked for before.
func TestChokingTurnsInAnyOrder(t *testing.T) {
	random := rand.New(rand.NewSource(44))
	for _, given := range fewGiven() {
		turns := someTurns()
		random.Shuffle(len(turns), func(a, b int) { turns[a], turns[b] = turns[b], turns[a] })
		for _, turn := range turns {
			checkTurnRules(t, given, turn)
		}
	}
}

func TestChokingOfNilAndEmptyIsEqual(t *testing.T) {
	want := givenAnswersOf(nil)
	for _, empty := range [][]int{{}, make([]int, 0, 30), equalGiven(9, 5)[:0], equalGiven(9, 5)[9:]} {
		if got := givenAnswersOf(empty); !equalAnswers(got, want) {
			t.Fatalf("the answers for no numbers are %v or %v", want, got)
		}
	}
	for _, c := range givenCalls() {
		if got := c.call(nil); len(got) != 0 {
			t.Errorf("%s of no numbers is %v", c.name, got)
		}
	}
}
