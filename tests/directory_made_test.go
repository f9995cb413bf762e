package tests

import (
	"math"
	"math/rand"
	"slices"
	"testing"

	"loop.example/feedswarm/impl"
)

// listedAt returns nodes that have announced themselves at times, one each.
func listedAt(nodes []int, times []int) []impl.Listed {
	list := []impl.Listed{}
	for place, node := range nodes {
		list = append(list, impl.Listed{Node: node, Time: times[place]})
	}
	return list
}

// listOf returns a directory of numbers that are nodes and times by turns.
func listOf(numbers ...int) []impl.Listed {
	list := []impl.Listed{}
	for pair := range slices.Chunk(numbers, 2) {
		list = append(list, impl.Listed{Node: pair[0], Time: pair[1]})
	}
	return list
}

// listedTogether returns nodes that have all announced themselves at one time.
func listedTogether(nodes []int, time int) []impl.Listed {
	return listedAt(nodes, slices.Repeat([]int{time}, len(nodes)))
}

// withListed returns a copy of a directory with another node at a place.
func withListed(list []impl.Listed, place int, listed impl.Listed) []impl.Listed {
	changed := slices.Clone(list)
	changed[place] = listed
	return changed
}

// nodesOf returns the nodes of a directory.
func nodesOf(list []impl.Listed) []int {
	nodes := []int{}
	for _, listed := range list {
		nodes = append(nodes, listed.Node)
	}
	return nodes
}

// isListed reports whether a node is in a directory.
func isListed(list []impl.Listed, node int) bool {
	return slices.Contains(nodesOf(list), node)
}

// nodesFrom returns so many nodes from one on, in steps.
func nodesFrom(first int, step int, many int) []int {
	nodes := []int{}
	for number := range many {
		nodes = append(nodes, first+number*step)
	}
	return nodes
}

// randomNodes returns so many different nodes, ascending.
func randomNodes(random *rand.Rand, many int) []int {
	return slices.Sorted(slices.Values(random.Perm(100)[:many]))
}

// nodeLists returns nodes of every number up to MaxDirectory: the first and the last ones, those in the middle, with gaps, from 0 to 99, and random ones.
func nodeLists() [][]int {
	random := rand.New(rand.NewSource(59))
	lists := [][]int{{}, {0}, {99}}
	for many := 1; many <= impl.MaxDirectory; many++ {
		lists = append(lists, nodesFrom(0, 1, many), nodesFrom(100-many, 1, many), nodesFrom(46, 1, many), nodesFrom(1, 2, many), nodesFrom(10, 11, many))
		if many > 1 {
			lists = append(lists, append(nodesFrom(0, 13, many-1), 99))
		}
		for range 4 {
			lists = append(lists, randomNodes(random, many))
		}
	}
	return lists
}

// randomTimes returns so many times from one on, as far as there are such.
func randomTimes(random *rand.Rand, many int, first int, count int) []int {
	times := []int{}
	for range many {
		times = append(times, min(max(first+random.Intn(count), 0), impl.MaxTime))
	}
	return times
}

// timeLists returns times of so many nodes: the same ones, the first and the last one by turns, and times that are near to each other, so that some nodes become old before others.
func timeLists(random *rand.Rand, many int) [][]int {
	lists := [][]int{}
	for _, time := range []int{0, 1, 500, impl.MaxTime - 1, impl.MaxTime} {
		lists = append(lists, slices.Repeat([]int{time}, many))
	}
	lists = append(lists, slices.Repeat([]int{0, impl.MaxTime}, many)[:many], slices.Repeat([]int{impl.MaxTime, 0}, many)[:many])
	for _, first := range []int{0, 488, impl.MaxTime - 12} {
		lists = append(lists, randomTimes(random, many, first, 2), randomTimes(random, many, first, 4), randomTimes(random, many, first, 13))
	}
	return append(lists, randomTimes(random, many, 0, impl.MaxTime+1))
}

// validDirectories returns valid directories with nodes and times of all kinds.
func validDirectories() [][]impl.Listed {
	random := rand.New(rand.NewSource(60))
	directories := [][]impl.Listed{}
	for _, nodes := range nodeLists() {
		for _, times := range timeLists(random, len(nodes)) {
			directories = append(directories, listedAt(nodes, times))
		}
	}
	return directories
}

// fewDirectories returns some of the valid directories, for tests that do more with each one.
func fewDirectories() [][]impl.Listed {
	few := [][]impl.Listed{}
	for number, list := range validDirectories() {
		if number%7 == 0 {
			few = append(few, list)
		}
	}
	return few
}

// timesFor returns the first and the last times, and those at which nodes of a directory announced themselves or become old, with the times next to them.
func timesFor(list []impl.Listed) []int {
	times := []int{0, 1, impl.Life, impl.Life + 1, impl.MaxTime - 1, impl.MaxTime}
	for _, listed := range list {
		for _, time := range []int{listed.Time, listed.Time + impl.Life} {
			times = append(times, time-1, time, time+1)
		}
	}
	slices.Sort(times)
	return slices.DeleteFunc(slices.Compact(times), func(time int) bool { return time < 0 || time > impl.MaxTime })
}

// nodesFor returns the first and the last node, and those of a directory, with the nodes next to them.
func nodesFor(list []impl.Listed) []int {
	nodes := []int{0, 99}
	for _, listed := range list {
		nodes = append(nodes, listed.Node-1, listed.Node, listed.Node+1)
	}
	slices.Sort(nodes)
	return slices.DeleteFunc(slices.Compact(nodes), func(node int) bool { return node < 0 || node > 99 })
}

// notNodes are numbers that are no node, near to the valid ones and far from them.
var notNodes = []int{-1, -2, -99, -100, 100, 101, 199, 255, 256, 1 << 32, -1 << 32, math.MinInt32, math.MaxInt32, math.MinInt, math.MaxInt}

// notTimes are numbers that are no time, near to the valid ones and far from them.
var notTimes = []int{-1, -2, -impl.Life, -impl.Life - 1, -impl.MaxTime, impl.MaxTime + 1, impl.MaxTime + 2, impl.MaxTime + impl.Life + 1, 2 * impl.MaxTime, 1 << 16, 1 << 32, -1 << 32, math.MinInt32, math.MaxInt32, math.MinInt, math.MaxInt}

// notSeeds are numbers at which no sample begins.
var notSeeds = []int{-1, -2, -7, -8, -9, -100, -1 << 32, math.MinInt32, math.MinInt + 1, math.MinInt}

// someSeeds returns numbers from 0 on, and greater ones up to the greatest.
func someSeeds() []int {
	seeds := nodesFrom(0, 1, 3*impl.MaxDirectory+1)
	seeds = append(seeds, 99, 100, 255, 256, 839, 840, 841, impl.MaxTime+1, math.MaxInt32-1, math.MaxInt32, 1<<32-1, 1<<32, 1<<40+3)
	return append(seeds, nodesFrom(math.MaxInt-2*impl.MaxDirectory, 1, 2*impl.MaxDirectory+1)...)
}

// someSizes are numbers of nodes to be wanted in a sample.
var someSizes = []int{math.MinInt, math.MinInt32, -100, -2, -1, 0, 1, 2, 3, 4, 5, 6, 7, 8, 9, 16, 99, 100, 1 << 32, math.MaxInt - 1, math.MaxInt}

// mayStay reports whether a node has announced itself at most Life before a time.
func mayStay(listed impl.Listed, now int) bool {
	return now-listed.Time <= impl.Life
}

// stayingOf returns the nodes of a directory that may stay at a time.
func stayingOf(list []impl.Listed, now int) []impl.Listed {
	staying := []impl.Listed{}
	for _, listed := range list {
		if mayStay(listed, now) {
			staying = append(staying, listed)
		}
	}
	return staying
}

// eachPut calls a function with valid directories, nodes and times.
func eachPut(call func(list []impl.Listed, node int, now int)) {
	for _, list := range validDirectories() {
		for _, node := range nodesFor(list) {
			for _, now := range timesFor(list) {
				call(list, node, now)
			}
		}
	}
}

// eachSeed calls a function with valid directories that have nodes, and numbers.
func eachSeed(call func(list []impl.Listed, seed int)) {
	for _, list := range validDirectories() {
		if len(list) == 0 {
			continue
		}
		for _, seed := range someSeeds() {
			call(list, seed)
		}
	}
}

// checkDirectoryValid fails the test if DirectoryValid does not return this result.
func checkDirectoryValid(t *testing.T, list []impl.Listed, want bool) {
	t.Helper()
	if got := impl.DirectoryValid(list); got != want {
		t.Fatalf("DirectoryValid of %v is %v, not %v", list, got, want)
	}
}

// checkDirectoryPut fails the test if DirectoryPut does not return this directory and this result.
func checkDirectoryPut(t *testing.T, list []impl.Listed, node int, now int, want []impl.Listed, wantOk bool) {
	t.Helper()
	if got, ok := impl.DirectoryPut(list, node, now); ok != wantOk || !slices.Equal(got, want) {
		t.Fatalf("DirectoryPut of %v, %d and %d is %v, %v, not %v, %v", list, node, now, got, ok, want, wantOk)
	}
}

// checkDirectorySweep fails the test if DirectorySweep does not return this directory.
func checkDirectorySweep(t *testing.T, list []impl.Listed, now int, want []impl.Listed) {
	t.Helper()
	if got := impl.DirectorySweep(list, now); !slices.Equal(got, want) {
		t.Fatalf("DirectorySweep of %v and %d is %v, not %v", list, now, got, want)
	}
}

// checkDirectorySample fails the test if DirectorySample does not return these nodes.
func checkDirectorySample(t *testing.T, list []impl.Listed, seed int, many int, want []int) {
	t.Helper()
	if got := impl.DirectorySample(list, seed, many); !slices.Equal(got, want) {
		t.Fatalf("DirectorySample of %v, %d and %d is %v, not %v", list, seed, many, got, want)
	}
}
