package tests

import (
	"math"
	"math/big"
	"math/rand"
	"slices"
	"testing"

	"loop.example/feedswarm/impl"
)

// extremeRuns are numbers that are never a run, near to the valid ones and far from them.
var extremeRuns = []int{
	-1, -2, -15, -16, -17, math.MinInt32, math.MinInt + 1, math.MinInt,
	impl.MaxBlocks + 1, impl.MaxBlocks + 2, 32, 255, 256, 257, 65536, math.MaxInt32, math.MaxInt/2 + 1, math.MaxInt - 1, math.MaxInt,
}

// runLists returns lists of numbers, valid and invalid runs: all short ones of small numbers, and random ones.
func runLists() [][]int {
	random := rand.New(rand.NewSource(7))
	lists := [][]int{{}}
	for first := 0; len(lists[first]) < 4; first++ {
		for run := -1; run <= impl.MaxBlocks+1; run++ {
			lists = append(lists, withFurther(lists[first], run))
		}
	}
	for length := range impl.MaxBlocks + 3 {
		for range 100 {
			runs := []int{}
			for range length {
				runs = append(runs, random.Intn(4))
			}
			lists = append(lists, runs)
		}
	}
	return lists
}

// plainRunsValid judges runs by the document's rule. The sum is exact, however large the numbers are.
func plainRunsValid(runs []int) bool {
	sum := big.NewInt(0)
	for place, run := range runs {
		mayBeZero := place == 0 && len(runs) >= 2
		if run < 0 || run == 0 && !mayBeZero || run > 16 {
			return false
		}
		sum.Add(sum, big.NewInt(int64(run)))
	}
	return sum.Cmp(big.NewInt(16)) <= 0
}

// checkRunsRefused fails the test if BitsOf accepts runs, or returns bits for them.
func checkRunsRefused(t *testing.T, runs []int) {
	t.Helper()
	if got, ok := impl.BitsOf(runs); ok || len(got) != 0 {
		// Some runs are too many to be shown.
		t.Errorf("BitsOf of %d runs that begin with %v is %v, %v", len(runs), runs[:min(len(runs), 20)], got, ok)
	}
}

// longBits returns lists of more than MaxBlocks bits.
func longBits() [][]bool {
	random := rand.New(rand.NewSource(8))
	lists := [][]bool{}
	for _, n := range []int{impl.MaxBlocks + 1, impl.MaxBlocks + 2, 31, 32, 33, 64, 65, 256, 257, 100000} {
		mixed := []bool{}
		for range n {
			mixed = append(mixed, random.Intn(2) == 1)
		}
		lists = append(lists, slices.Repeat([]bool{false}, n), slices.Repeat([]bool{true}, n), mixed)
	}
	return lists
}

func TestBitsOfAcceptsExactlyValidRuns(t *testing.T) {
	for _, runs := range runLists() {
		got, ok := impl.BitsOf(runs)
		if ok != plainRunsValid(runs) {
			t.Fatalf("BitsOf of %v is %v, %v", runs, got, ok)
		}
		if !ok && len(got) != 0 {
			t.Fatalf("BitsOf of %v fails with %v", runs, got)
		}
		if ok && !slices.Equal(plainRuns(got), runs) {
			t.Fatalf("BitsOf of %v is %v", runs, got)
		}
	}
}

func TestBitsOfTheSingleRunZero(t *testing.T) {
	checkRunsRefused(t, []int{0})
	if got, ok := impl.BitsOf([]int{0, 1}); !ok || !slices.Equal(got, []bool{true}) {
		t.Errorf("BitsOf of 0 and 1 is %v, %v", got, ok)
	}
	for _, runs := range [][]int{nil, {}} {
		if got, ok := impl.BitsOf(runs); !ok || len(got) != 0 {
			t.Errorf("BitsOf of no runs is %v, %v", got, ok)
		}
	}
}

// Each run of valid ones is replaced by 0 and by numbers that are never a run, at each place.
func TestBitsOfRunsWithOneInvalid(t *testing.T) {
	for _, runs := range [][]int{
		{1}, {16}, {0, 1}, {0, 16}, {1, 1}, {8, 8}, {0, 1, 1}, {1, 1, 1}, {3, 1, 2, 4}, {0, 2, 1, 1}, {4, 4, 4, 4},
		slices.Repeat([]int{1}, impl.MaxBlocks), append([]int{0}, slices.Repeat([]int{1}, impl.MaxBlocks)...),
	} {
		if got, ok := impl.BitsOf(runs); !ok || !slices.Equal(plainRuns(got), runs) {
			t.Errorf("BitsOf of %v is %v, %v", runs, got, ok)
		}
		for place := range runs {
			for _, run := range extremeRuns {
				checkRunsRefused(t, withMember(runs, place, run))
			}
			if place > 0 {
				checkRunsRefused(t, withMember(runs, place, 0))
			}
		}
		checkRunsRefused(t, withFurther(runs, 0))
		checkRunsRefused(t, append([]int{0, 0}, runs...))
	}
}

func TestBitsOfRunsAtTheGreatestSum(t *testing.T) {
	for _, list := range bitLists(impl.MaxBlocks) {
		runs := plainRuns(list)
		if len(list) < impl.MaxBlocks {
			continue
		}
		if got, ok := impl.BitsOf(runs); !ok || len(got) != impl.MaxBlocks {
			t.Fatalf("BitsOf of %v is %v, %v", runs, got, ok)
		}
		checkRunsRefused(t, withFurther(runs, 1))
		for place, run := range runs {
			// But for the run 17, only the sum is too large.
			checkRunsRefused(t, withMember(runs, place, run+1))
		}
	}
}

// The sums of these runs are too large, and some of them are small again in a type of 8, 16, 32 or 64 bits.
func TestBitsOfRunsWhoseSumIsTooLarge(t *testing.T) {
	for _, run := range []int{1, 2, 3, 4, 8, 15, impl.MaxBlocks} {
		for _, n := range []int{17, 18, 32, 64, 128, 256, 4096, 65536, 65552} {
			checkRunsRefused(t, slices.Repeat([]int{run}, n))
			checkRunsRefused(t, append([]int{0}, slices.Repeat([]int{run}, n)...))
		}
	}
	quarter := math.MaxInt/2 + 1
	for _, runs := range [][]int{
		{math.MaxInt, math.MaxInt, 2}, {math.MaxInt, math.MaxInt, 3}, {0, math.MaxInt, math.MaxInt, 10},
		{math.MaxInt, 1}, {1, math.MaxInt}, {1, math.MaxInt, math.MaxInt, 1}, {16, math.MaxInt},
		{quarter, quarter, quarter, quarter}, {0, quarter, quarter, quarter, quarter}, {1, quarter, quarter, quarter, quarter},
		{math.MinInt, math.MinInt}, {math.MinInt, math.MaxInt, 2}, {math.MaxInt, math.MinInt, 2}, {5, math.MinInt, math.MinInt},
		{1 << 32, 1}, {0, 1 << 32}, {1, 1<<32 - 1}, {1 << 31, 1 << 31}, {20, -10}, {-10, 20}, {1, 20, -10}, {17, -1},
	} {
		checkRunsRefused(t, runs)
	}
}

func TestBitsOfMoreThanMaxBlocks(t *testing.T) {
	for _, list := range longBits() {
		if got := impl.BitsRuns(list); len(got) != 0 {
			t.Errorf("BitsRuns of %d bits is %v", len(list), got)
		}
		if got := impl.BitsCount(list); got != -1 {
			t.Errorf("BitsCount of %d bits is %d", len(list), got)
		}
	}
}

func TestBitsWantsOfMoreThanMaxBlocks(t *testing.T) {
	all, none := slices.Repeat([]bool{true}, impl.MaxBlocks), slices.Repeat([]bool{false}, impl.MaxBlocks)
	long := longBits()
	for _, list := range long {
		for _, short := range [][]bool{nil, {}, {true}, {false}, all, none} {
			if got := impl.BitsWants(list, short); len(got) != 0 {
				t.Errorf("BitsWants of %d bits and %v is %v", len(list), short, got)
			}
			if got := impl.BitsWants(short, list); len(got) != 0 {
				t.Errorf("BitsWants of %v and %d bits is %v", short, len(list), got)
			}
		}
		for _, other := range long {
			if got := impl.BitsWants(list, other); len(got) != 0 {
				t.Errorf("BitsWants of %d and %d bits is %v", len(list), len(other), got)
			}
		}
	}
}

func TestBitsOfNilAndEmptyAreEqual(t *testing.T) {
	empty := [][]bool{nil, {}}
	for _, list := range empty {
		if got := impl.BitsRuns(list); len(got) != 0 {
			t.Errorf("BitsRuns of no bits is %v", got)
		}
		if got := impl.BitsCount(list); got != 0 {
			t.Errorf("BitsCount of no bits is %d", got)
		}
		for _, other := range append(bitLists(6), longBits()...) {
			if got := impl.BitsWants(list, other); len(got) != 0 {
				t.Errorf("BitsWants of no bits and %v is %v", other, got)
			}
			if got, want := impl.BitsWants(other, list), impl.BitsWants(other, empty[0]); !slices.Equal(got, want) {
				t.Errorf("BitsWants of %v and no bits is %v or %v", other, got, want)
			}
		}
	}
}

// roomyBits returns a list within larger memory, whose other bits are all set or all not set, and the whole of this memory.
func roomyBits(list []bool, around bool) ([]bool, []bool) {
	whole := slices.Concat([]bool{around, around}, list, slices.Repeat([]bool{around}, 20))
	return whole[2 : 2+len(list)], whole
}

// bitArguments returns lists of bits of all valid lengths, and some that are too long.
func bitArguments() [][]bool {
	random := rand.New(rand.NewSource(9))
	lists := append(bitLists(4), longBits()[:6]...)
	for n := 5; n <= impl.MaxBlocks; n++ {
		lists = append(lists, bitsOfNumber(0, n), bitsOfNumber(-1, n), bitsOfNumber(random.Int(), n))
	}
	return lists
}

// runArguments returns valid runs, and some that are invalid for each reason.
func runArguments() [][]int {
	lists := [][]int{{0}, {-1}, {17}, {0, 0}, {1, 0}, {16, 1}, {1, 2, math.MaxInt}, {math.MinInt, 1}, slices.Repeat([]int{1}, 17)}
	for _, list := range bitArguments() {
		lists = append(lists, plainRuns(list))
	}
	return lists
}

// What lies behind the end of an argument is neither read nor changed, and neither is the argument changed.
func TestBitsKeepTheirArguments(t *testing.T) {
	for _, list := range bitArguments() {
		for _, around := range []bool{false, true} {
			bits, whole := roomyBits(list, around)
			before := slices.Clone(whole)
			if got, want := impl.BitsRuns(bits), impl.BitsRuns(list); !slices.Equal(got, want) {
				t.Fatalf("BitsRuns of %v is %v or %v", list, got, want)
			}
			if got, want := impl.BitsCount(bits), impl.BitsCount(list); got != want {
				t.Fatalf("BitsCount of %v is %d or %d", list, got, want)
			}
			for _, other := range bitArguments() {
				more, wholeMore := roomyBits(other, around)
				beforeMore := slices.Clone(wholeMore)
				if got, want := impl.BitsWants(bits, more), impl.BitsWants(list, other); !slices.Equal(got, want) {
					t.Fatalf("BitsWants of %v and %v is %v or %v", list, other, got, want)
				}
				if !slices.Equal(wholeMore, beforeMore) {
					t.Fatalf("the bits %v are changed to %v", beforeMore, wholeMore)
				}
			}
			if !slices.Equal(whole, before) {
				t.Fatalf("the bits %v are changed to %v", before, whole)
			}
		}
	}
	for _, list := range runArguments() {
		runs, whole := roomy(list)
		before := slices.Clone(whole)
		first, firstOk := impl.BitsOf(runs)
		if !slices.Equal(whole, before) {
			t.Fatalf("the runs %v are changed to %v", before, whole)
		}
		if again, ok := impl.BitsOf(list); ok != firstOk || !slices.Equal(again, first) {
			t.Fatalf("BitsOf of %v is %v, and %v in a later call", list, first, again)
		}
	}
}

// checkOwnMemory writes into all memory of a first result, and fails the test if this is seen in a second or a later one.
func checkOwnMemory[T comparable](t *testing.T, what string, call func() []T, mark T) {
	t.Helper()
	first, second := call(), call()
	want := slices.Clone(second)
	room := first[:cap(first)]
	for place := range room {
		room[place] = mark
	}
	// Before the later call, which would write the result into shared memory again.
	if !slices.Equal(second, want) {
		t.Errorf("%s: the result %v shares memory with an earlier one and becomes %v", what, want, second)
	}
	if later := call(); !slices.Equal(later, want) {
		t.Errorf("%s: the result is %v, and %v in a later call", what, want, later)
	}
}

func TestBitsResultsShareNoMemory(t *testing.T) {
	for _, list := range bitArguments() {
		bits, whole := roomyBits(list, true)
		before := slices.Clone(whole)
		checkOwnMemory(t, "BitsRuns", func() []int { return impl.BitsRuns(bits) }, -9)
		checkOwnMemory(t, "BitsWants", func() []int { return impl.BitsWants(bits, nil) }, -9)
		checkOwnMemory(t, "BitsWants of itself", func() []int { return impl.BitsWants(bits, bits) }, -9)
		if !slices.Equal(whole, before) {
			t.Fatalf("a result of %v shares memory with the bits", list)
		}
	}
	for _, list := range runArguments() {
		runs, whole := roomy(list)
		before := slices.Clone(whole)
		for _, mark := range []bool{false, true} {
			checkOwnMemory(t, "BitsOf", func() []bool {
				got, _ := impl.BitsOf(runs)
				return got
			}, mark)
		}
		if !slices.Equal(whole, before) {
			t.Fatalf("a result of %v shares memory with the runs", list)
		}
	}
}
