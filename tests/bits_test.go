package tests

import (
	"math/rand"
	"slices"
	"strings"
	"testing"

	"loop.example/feedswarm/impl"
)

// bitsOfText returns the bits that a text shows: # for one that is set, and a dot for one that is not.
func bitsOfText(text string) []bool {
	list := []bool{}
	for i := range len(text) {
		list = append(list, text[i] == '#')
	}
	return list
}

// bitsOfNumber returns the n lowest bits of a number, the lowest one first.
func bitsOfNumber(number int, n int) []bool {
	list := []bool{}
	for place := range n {
		list = append(list, number>>place&1 == 1)
	}
	return list
}

// bitLists returns all lists of at most n bits.
func bitLists(n int) [][]bool {
	lists := [][]bool{}
	for length := range n + 1 {
		for number := range 1 << length {
			lists = append(lists, bitsOfNumber(number, length))
		}
	}
	return lists
}

// bitPair is a pair of lists of bits.
type bitPair struct{ other, mine []bool }

// bitPairs returns all pairs of short lists, and pairs of lists of all valid lengths.
func bitPairs() []bitPair {
	random := rand.New(rand.NewSource(6))
	pairs, short := []bitPair{}, bitLists(6)
	for _, other := range short {
		for _, mine := range short {
			pairs = append(pairs, bitPair{other, mine})
		}
	}
	for n := range impl.MaxBlocks + 1 {
		for m := range impl.MaxBlocks + 1 {
			all, none := slices.Repeat([]bool{true}, n), slices.Repeat([]bool{false}, n)
			few, no := slices.Repeat([]bool{true}, m), slices.Repeat([]bool{false}, m)
			pairs = append(pairs, bitPair{all, few}, bitPair{all, no}, bitPair{none, few}, bitPair{none, no})
			for range 20 {
				pairs = append(pairs, bitPair{bitsOfNumber(random.Int(), n), bitsOfNumber(random.Int(), m)})
			}
		}
	}
	return pairs
}

// plainSet reports whether a place is set, where places beyond the end are not.
func plainSet(list []bool, place int) bool {
	return place < len(list) && list[place]
}

// plainCount returns the number of bits that are set.
func plainCount(list []bool) int {
	count := 0
	for _, bit := range list {
		if bit {
			count++
		}
	}
	return count
}

// plainRuns returns the lengths of runs by cutting them off a text that shows the bits.
func plainRuns(list []bool) []int {
	text := ""
	for _, bit := range list {
		if bit {
			text += "#"
		} else {
			text += "."
		}
	}
	runs := []int{}
	for sign := "."; text != ""; {
		rest := strings.TrimLeft(text, sign)
		runs = append(runs, len(text)-len(rest))
		text = rest
		if sign == "." {
			sign = "#"
		} else {
			sign = "."
		}
	}
	return runs
}

func TestBitsRunsAndCountValues(t *testing.T) {
	for _, c := range []struct {
		text  string
		runs  []int
		count int
	}{
		{"", []int{}, 0},
		{".", []int{1}, 0},
		{"#", []int{0, 1}, 1},
		{"..", []int{2}, 0},
		{".#", []int{1, 1}, 1},
		{"#.", []int{0, 1, 1}, 1},
		{"##", []int{0, 2}, 2},
		{"##.#", []int{0, 2, 1, 1}, 3},
		{".##", []int{1, 2}, 2},
		{"...#..", []int{3, 1, 2}, 1},
		{"................", []int{16}, 0},
		{"################", []int{0, 16}, 16},
		{".###############", []int{1, 15}, 15},
		{"#...............", []int{0, 1, 15}, 1},
		{"...............#", []int{15, 1}, 1},
		{"###############.", []int{0, 15, 1}, 15},
		{"........########", []int{8, 8}, 8},
		{"#.#.#.#.#.#.#.#.", []int{0, 1, 1, 1, 1, 1, 1, 1, 1, 1, 1, 1, 1, 1, 1, 1, 1}, 8},
		{".#.#.#.#.#.#.#.#", []int{1, 1, 1, 1, 1, 1, 1, 1, 1, 1, 1, 1, 1, 1, 1, 1}, 8},
	} {
		list := bitsOfText(c.text)
		if got := impl.BitsRuns(list); !slices.Equal(got, c.runs) {
			t.Errorf("BitsRuns of %q is %v, not %v", c.text, got, c.runs)
		}
		if got, ok := impl.BitsOf(c.runs); !ok || !slices.Equal(got, list) {
			t.Errorf("BitsOf of %v is %v, %v, not %v", c.runs, got, ok, list)
		}
		if got := impl.BitsCount(list); got != c.count {
			t.Errorf("BitsCount of %q is %d, not %d", c.text, got, c.count)
		}
	}
}

func TestBitsWantsValues(t *testing.T) {
	for _, c := range []struct {
		other, mine string
		want        []int
	}{
		{"", "", []int{}},
		{"#", "", []int{0}},
		{"", "#", []int{}},
		{".", "#", []int{}},
		{"#", "#", []int{}},
		{"#", ".", []int{0}},
		{"##.#", "#", []int{1, 3}},
		{"#", "##.#", []int{}},
		{"#", ".###", []int{0}},
		{".##", "#.#.#", []int{1}},
		{"#.#.#", ".##", []int{0, 4}},
		{"###", "...", []int{0, 1, 2}},
		{"################", "", []int{0, 1, 2, 3, 4, 5, 6, 7, 8, 9, 10, 11, 12, 13, 14, 15}},
		{"################", "###############", []int{15}},
		{"################", "################", []int{}},
		{"...............#", ".", []int{15}},
		{"#", "................", []int{0}},
		{"", "################", []int{}},
	} {
		if got := impl.BitsWants(bitsOfText(c.other), bitsOfText(c.mine)); !slices.Equal(got, c.want) {
			t.Errorf("BitsWants of %q and %q is %v, not %v", c.other, c.mine, got, c.want)
		}
	}
}

func TestPromise32BitsOfTheirRuns(t *testing.T) {
	for _, list := range bitLists(impl.MaxBlocks) {
		runs := impl.BitsRuns(list)
		if want := plainRuns(list); !slices.Equal(runs, want) {
			t.Fatalf("BitsRuns of %v is %v, not %v", list, runs, want)
		}
		if got, ok := impl.BitsOf(runs); !ok || !slices.Equal(got, list) {
			t.Fatalf("BitsOf of %v is %v, %v, not %v", runs, got, ok, list)
		}
	}
}

// The runs of all lists of bits are all runs that are valid; those of other lists of numbers are refused.
func TestPromise33RunsOfTheirBits(t *testing.T) {
	for _, list := range bitLists(impl.MaxBlocks) {
		runs := plainRuns(list)
		got, ok := impl.BitsOf(runs)
		if !ok || !slices.Equal(impl.BitsRuns(got), runs) {
			t.Fatalf("BitsOf of %v is %v, %v, whose runs are %v", runs, got, ok, impl.BitsRuns(got))
		}
	}
	for _, runs := range runLists() {
		got, ok := impl.BitsOf(runs)
		if ok && !slices.Equal(impl.BitsRuns(got), runs) {
			t.Fatalf("BitsOf of %v is %v, whose runs are %v", runs, got, impl.BitsRuns(got))
		}
	}
}

func TestPromise34RunsAddUp(t *testing.T) {
	for _, list := range bitLists(impl.MaxBlocks) {
		set, all := 0, 0
		for place, run := range impl.BitsRuns(list) {
			if place%2 == 1 {
				set += run
			}
			all += run
		}
		if set != impl.BitsCount(list) || set != plainCount(list) || all != len(list) {
			t.Fatalf("the runs of %v add up to %d that are set, and to %d; BitsCount is %d", list, set, all, impl.BitsCount(list))
		}
	}
}

func TestPromise35OneMoreBitIsSet(t *testing.T) {
	for _, list := range bitLists(impl.MaxBlocks) {
		before := impl.BitsCount(list)
		for place, bit := range list {
			if bit {
				continue
			}
			list[place] = true
			if got := impl.BitsCount(list); got != before+1 {
				t.Fatalf("BitsCount of %v is %d, and %d without the bit at %d", list, got, before, place)
			}
			list[place] = false
		}
	}
}

func TestPromise36WantedPlaces(t *testing.T) {
	for _, pair := range bitPairs() {
		want := []int{}
		for place := range impl.MaxBlocks {
			if plainSet(pair.other, place) && !plainSet(pair.mine, place) {
				want = append(want, place)
			}
		}
		if got := impl.BitsWants(pair.other, pair.mine); !slices.Equal(got, want) {
			t.Fatalf("BitsWants of %v and %v is %v, not %v", pair.other, pair.mine, got, want)
		}
	}
}

// A place beyond the end is the same as one that is not set, in each list.
func TestPromise36PlacesBeyondTheEnd(t *testing.T) {
	for _, pair := range bitPairs() {
		want := impl.BitsWants(pair.other, pair.mine)
		for n := len(pair.other); n <= impl.MaxBlocks; n++ {
			longer := append(slices.Clone(pair.other), make([]bool, n-len(pair.other))...)
			if got := impl.BitsWants(longer, pair.mine); !slices.Equal(got, want) {
				t.Fatalf("BitsWants of %v and %v is %v, not %v", longer, pair.mine, got, want)
			}
		}
		for n := len(pair.mine); n <= impl.MaxBlocks; n++ {
			longer := append(slices.Clone(pair.mine), make([]bool, n-len(pair.mine))...)
			if got := impl.BitsWants(pair.other, longer); !slices.Equal(got, want) {
				t.Fatalf("BitsWants of %v and %v is %v, not %v", pair.other, longer, got, want)
			}
		}
	}
}

func TestPromise37WantsOfItselfAndOfNoBits(t *testing.T) {
	for _, list := range bitLists(impl.MaxBlocks) {
		if got := impl.BitsWants(list, list); len(got) != 0 {
			t.Fatalf("BitsWants of %v and itself is %v", list, got)
		}
		if got := impl.BitsWants(list, slices.Clone(list)); len(got) != 0 {
			t.Fatalf("BitsWants of %v and an equal list is %v", list, got)
		}
		for _, none := range [][]bool{nil, {}} {
			if got := impl.BitsWants(list, none); len(got) != impl.BitsCount(list) {
				t.Fatalf("BitsWants of %v and no bits is %v, and BitsCount is %d", list, got, impl.BitsCount(list))
			}
		}
	}
}

func TestPromise38OnlyTheFirstRunMayBeZero(t *testing.T) {
	for _, list := range bitLists(impl.MaxBlocks) {
		for place, run := range impl.BitsRuns(list) {
			if place > 0 && run <= 0 || place == 0 && (run == 0) != list[0] || run < 0 {
				t.Fatalf("BitsRuns of %v is %v", list, impl.BitsRuns(list))
			}
		}
	}
}

func TestPromise39CountOfTwoParts(t *testing.T) {
	for _, list := range bitLists(impl.MaxBlocks) {
		count := impl.BitsCount(list)
		for place := range len(list) + 1 {
			first, second := impl.BitsCount(list[:place]), impl.BitsCount(list[place:])
			if first < 0 || second < 0 || first+second != count {
				t.Fatalf("BitsCount of %v is %d, and of its parts at %d it is %d and %d", list, count, place, first, second)
			}
		}
	}
}

func TestPromise40CountOfWantedAndCommonPlaces(t *testing.T) {
	for _, pair := range bitPairs() {
		both := 0
		for place := range impl.MaxBlocks {
			if plainSet(pair.other, place) && plainSet(pair.mine, place) {
				both++
			}
		}
		wanted := len(impl.BitsWants(pair.other, pair.mine))
		if got := impl.BitsCount(pair.other); got != wanted+both {
			t.Fatalf("BitsCount of %v is %d; %d places are wanted with %v, and %d are set in both", pair.other, got, wanted, pair.mine, both)
		}
	}
}
