package tests

import (
	"math"
	"math/rand"
	"slices"
	"testing"

	"loop.example/feedswarm/impl"
)

// directoryCall is a call of a function that returns a directory.
type directoryCall struct {
	name string
	call func(list []impl.Listed) []impl.Listed
}

// directoryCalls returns calls of the functions that return directories, with valid and invalid nodes and times.
func directoryCalls(list []impl.Listed) []directoryCall {
	calls := []directoryCall{}
	nodes := []int{-1, 0, 47, 99, 100}
	if len(list) > 0 {
		nodes = append(nodes, list[0].Node, list[len(list)-1].Node)
	}
	for _, now := range []int{-1, 0, 11, 499, 505, impl.MaxTime, impl.MaxTime + 1} {
		calls = append(calls, directoryCall{"DirectorySweep", func(list []impl.Listed) []impl.Listed { return impl.DirectorySweep(list, now) }})
		for _, node := range nodes {
			calls = append(calls, directoryCall{"DirectoryPut", func(list []impl.Listed) []impl.Listed {
				got, _ := impl.DirectoryPut(list, node, now)
				return got
			}})
		}
	}
	return calls
}

// sampleCalls returns calls of DirectorySample, with valid and invalid numbers.
func sampleCalls() []func(list []impl.Listed) []int {
	calls := []func(list []impl.Listed) []int{}
	for _, seed := range []int{-1, 0, 1, 2, 7, 8, math.MaxInt} {
		for _, many := range []int{-1, 0, 1, 3, 7, 8, 9, math.MaxInt} {
			calls = append(calls, func(list []impl.Listed) []int { return impl.DirectorySample(list, seed, many) })
		}
	}
	return calls
}

// directoryAnswers are the results of all functions for a directory.
type directoryAnswers struct {
	valid       bool
	succeeds    []bool
	directories [][]impl.Listed
	samples     [][]int
}

// directoryAnswersOf returns the results of all functions for a directory.
func directoryAnswersOf(list []impl.Listed) directoryAnswers {
	answers := directoryAnswers{valid: impl.DirectoryValid(list)}
	for _, node := range append([]int{-1, 0, 47, 99, 100}, nodesOf(list)...) {
		for _, now := range []int{-1, 0, 499, 505, impl.MaxTime, impl.MaxTime + 1} {
			_, ok := impl.DirectoryPut(list, node, now)
			answers.succeeds = append(answers.succeeds, ok)
		}
	}
	for _, c := range directoryCalls(list) {
		answers.directories = append(answers.directories, c.call(list))
	}
	for _, call := range sampleCalls() {
		answers.samples = append(answers.samples, call(list))
	}
	return answers
}

// equal reports whether results are equal.
func (a directoryAnswers) equal(other directoryAnswers) bool {
	return a.valid == other.valid && slices.Equal(a.succeeds, other.succeeds) &&
		slices.EqualFunc(a.directories, other.directories, slices.Equal[[]impl.Listed]) && equalAnswers(a.samples, other.samples)
}

// memoryDirectories returns valid directories of all kinds, and invalid ones for each reason.
func memoryDirectories() [][]impl.Listed {
	random := rand.New(rand.NewSource(63))
	lists := fewDirectories()
	for number, list := range fewDirectories() {
		if len(list) > 0 {
			last := list[len(list)-1]
			lists = append(lists,
				withListed(list, 0, impl.Listed{Node: list[0].Node, Time: notTimes[number%len(notTimes)]}),
				withListed(list, len(list)-1, impl.Listed{Node: notNodes[number%len(notNodes)], Time: last.Time}),
				append(slices.Clone(list), last))
		}
	}
	for range 100 {
		lists = append(lists, mixedListed(random))
	}
	return append(lists, listedTogether(nodesFrom(0, 1, impl.MaxDirectory+1), 500), listedTogether(nodesFrom(0, 1, 100), 0))
}

// roomyListed returns a directory that lies within larger memory, and the whole of it. What lies behind it may be valid there.
func roomyListed(list []impl.Listed, around impl.Listed) ([]impl.Listed, []impl.Listed) {
	surroundings := slices.Repeat([]impl.Listed{around}, 12)
	whole := slices.Concat(surroundings[:2], list, surroundings)
	return whole[2 : 2+len(list)], whole
}

// aroundListed is what lies around directories: invalid nodes and valid ones, the last one of them behind most others.
var aroundListed = []impl.Listed{{Node: -7, Time: -7}, {Node: 0, Time: 0}, {Node: 50, Time: 500}, {Node: 99, Time: impl.MaxTime}}

// What lies around a directory is neither read nor changed, and neither is the directory changed. This is seen after each call, because a later one could take a change back.
func TestDirectoryKeepsItsArguments(t *testing.T) {
	for _, plain := range memoryDirectories() {
		for _, around := range aroundListed {
			list, whole := roomyListed(plain, around)
			before := slices.Clone(whole)
			for _, c := range directoryCalls(plain) {
				want := c.call(slices.Clone(plain))
				if got := c.call(list); !slices.Equal(got, want) {
					t.Fatalf("%s of %v returns %v or %v", c.name, plain, want, got)
				}
				if !slices.Equal(whole, before) {
					t.Fatalf("%s changes %v to %v", c.name, before, whole)
				}
			}
		}
	}
}

func TestDirectorySampleAndValidKeepTheirArguments(t *testing.T) {
	for _, plain := range memoryDirectories() {
		for _, around := range aroundListed {
			list, whole := roomyListed(plain, around)
			before := slices.Clone(whole)
			for _, call := range sampleCalls() {
				want := call(slices.Clone(plain))
				if got := call(list); !slices.Equal(got, want) || !slices.Equal(whole, before) {
					t.Fatalf("DirectorySample of %v returns %v or %v, and %v become %v", plain, want, got, before, whole)
				}
			}
			if impl.DirectoryValid(list) != impl.DirectoryValid(slices.Clone(plain)) || !slices.Equal(whole, before) {
				t.Fatalf("DirectoryValid of %v depends on %v or changes it", plain, around)
			}
		}
	}
}

// Whatever is written into a result, up to its capacity, must be seen neither in the arguments nor in other results.
func TestDirectoryResultsShareNoMemory(t *testing.T) {
	for _, plain := range memoryDirectories() {
		list, whole := roomyListed(plain, impl.Listed{Node: 99, Time: 500})
		before := slices.Clone(whole)
		for _, c := range directoryCalls(plain) {
			for _, mark := range []impl.Listed{{Node: -9, Time: -9}, {}, {Node: math.MaxInt, Time: math.MaxInt}} {
				checkOwnMemory(t, c.name, func() []impl.Listed { return c.call(list) }, mark)
			}
			if !slices.Equal(whole, before) {
				t.Fatalf("a result of %s shares memory with %v", c.name, plain)
			}
		}
		for _, call := range sampleCalls() {
			for _, mark := range []int{-9, 0, math.MaxInt} {
				checkOwnMemory(t, "DirectorySample", func() []int { return call(list) }, mark)
			}
		}
		if !slices.Equal(whole, before) {
			t.Fatalf("a result of DirectorySample shares memory with %v", plain)
		}
	}
}

// Results of other functions and of other directories must not be seen in a result.
func TestDirectoryResultsOfDifferentCallsShareNoMemory(t *testing.T) {
	full := listedTogether(nodesFrom(4, 12, impl.MaxDirectory), 490)
	for number, plain := range memoryDirectories() {
		if number%10 != 0 {
			continue
		}
		calls := directoryCalls(plain)
		for _, c := range calls {
			got := c.call(plain)
			want := slices.Clone(got)
			for _, other := range calls {
				for _, result := range [][]impl.Listed{other.call(plain), other.call(full)} {
					result = result[:cap(result)]
					for place := range result {
						result[place] = impl.Listed{Node: -9, Time: -9}
					}
				}
			}
			if !slices.Equal(got, want) {
				t.Fatalf("the result %v of %s of %v becomes %v", want, c.name, plain, got)
			}
		}
	}
}

// A later change of a directory must not be seen in a result.
func TestDirectoryResultsKeepNoArguments(t *testing.T) {
	for _, plain := range memoryDirectories() {
		list := slices.Clone(plain)
		answers, want := directoryAnswersOf(list), directoryAnswersOf(slices.Clone(plain))
		for place := range list {
			list[place] = impl.Listed{Node: -5, Time: -5}
		}
		if !answers.equal(want) {
			t.Fatalf("the answers for %v change with it", plain)
		}
	}
}

// The results of a first step are the arguments of further ones: two nodes are put into one directory, which they must not share.
func TestDirectoryOfTwoBranchesSharesNoMemory(t *testing.T) {
	for _, plain := range memoryDirectories() {
		for _, c := range directoryCalls(plain) {
			trunk := c.call(plain)
			before := slices.Clone(trunk)
			first, firstOk := impl.DirectoryPut(trunk, 98, 505)
			second, secondOk := impl.DirectoryPut(trunk, 1, 506)
			swept := impl.DirectorySweep(trunk, 507)
			wantFirst, wantFirstOk := plainDirectoryPut(before, 98, 505)
			wantSecond, wantSecondOk := plainDirectoryPut(before, 1, 506)
			if firstOk != wantFirstOk || secondOk != wantSecondOk || !slices.Equal(first, wantFirst) || !slices.Equal(second, wantSecond) || !slices.Equal(swept, plainDirectorySweep(before, 507)) {
				t.Fatalf("%v branches into %v, %v and %v", before, first, second, swept)
			}
			if !slices.Equal(trunk, before) {
				t.Fatalf("%v becomes %v while it branches", before, trunk)
			}
		}
	}
}

// No state is kept between calls: the answers are the same after those for other directories, valid and invalid ones.
func TestDirectoryAnswersAreTheSameLater(t *testing.T) {
	lists := memoryDirectories()
	answers := []directoryAnswers{}
	for _, list := range lists {
		answers = append(answers, directoryAnswersOf(list))
	}
	for number, list := range slices.Backward(lists) {
		if got := directoryAnswersOf(list); !got.equal(answers[number]) {
			t.Fatalf("the answers for %v are %v, and %v later", list, answers[number], got)
		}
	}
}

func TestDirectoryOfNilAndEmptyIsEqual(t *testing.T) {
	want := directoryAnswersOf(nil)
	full := listedTogether(nodesFrom(4, 12, impl.MaxDirectory), 490)
	for _, empty := range [][]impl.Listed{{}, make([]impl.Listed, 0, 30), full[:0], full[8:]} {
		if got := directoryAnswersOf(empty); !got.equal(want) {
			t.Fatalf("the answers for no nodes are %v or %v", want, got)
		}
	}
	if !want.valid {
		t.Errorf("a directory without nodes is not valid")
	}
}
