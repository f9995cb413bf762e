package tests

import (
	"math"
	"math/rand"
	"slices"
	"testing"

	"loop.example/feedswarm/impl"
)

// plainDirectoryValid judges a directory by the document's rule.
func plainDirectoryValid(list []impl.Listed) bool {
	for place, listed := range list {
		if listed.Node < 0 || listed.Node > 99 || listed.Time < 0 || listed.Time > 999 {
			return false
		}
		if place > 0 && list[place-1].Node >= listed.Node {
			return false
		}
	}
	return len(list) <= 8
}

// plainNodeValid judges a node by the document's rule.
func plainNodeValid(node int) bool {
	return node >= 0 && node <= 99
}

// plainTimeValid judges a time by the document's rule.
func plainTimeValid(time int) bool {
	return time >= 0 && time <= 999
}

// plainSwept returns a directory without the nodes that are old, by the document's rule.
func plainSwept(list []impl.Listed, now int) []impl.Listed {
	return slices.DeleteFunc(slices.Clone(list), func(listed impl.Listed) bool { return listed.Time+10 < now })
}

// plainDirectoryPut lists a node by the document's rule.
func plainDirectoryPut(list []impl.Listed, node int, now int) ([]impl.Listed, bool) {
	if !plainDirectoryValid(list) || !plainNodeValid(node) || !plainTimeValid(now) {
		return nil, false
	}
	if place := slices.Index(nodesOf(list), node); place >= 0 {
		later := max(list[place].Time, now)
		return withListed(list, place, impl.Listed{Node: node, Time: later}), true
	}
	room := list
	if len(list) == 8 {
		room = plainSwept(list, now)
	}
	if len(room) == 8 {
		return list, false
	}
	place := 0
	for place < len(room) && room[place].Node < node {
		place++
	}
	return slices.Insert(slices.Clone(room), place, impl.Listed{Node: node, Time: now}), true
}

// plainDirectorySweep removes the nodes that are old, by the document's rule.
func plainDirectorySweep(list []impl.Listed, now int) []impl.Listed {
	if !plainDirectoryValid(list) || !plainTimeValid(now) {
		return nil
	}
	return plainSwept(list, now)
}

// plainDirectorySample takes a sample by the document's rule.
func plainDirectorySample(list []impl.Listed, seed int, many int) []int {
	sample := []int{}
	if !plainDirectoryValid(list) || len(list) == 0 || seed < 0 {
		return sample
	}
	for place := seed % len(list); len(sample) < min(many, len(list)); place++ {
		if place == len(list) {
			place = 0
		}
		sample = append(sample, list[place].Node)
	}
	return sample
}

// checkPutRules fails the test if DirectoryPut does not follow the document's rule.
func checkPutRules(t *testing.T, list []impl.Listed, node int, now int) {
	t.Helper()
	want, wantOk := plainDirectoryPut(list, node, now)
	checkDirectoryPut(t, list, node, now, want, wantOk)
}

// checkDirectoryRules fails the test if a function does not follow the document's rules for this directory.
func checkDirectoryRules(t *testing.T, list []impl.Listed) {
	t.Helper()
	checkDirectoryValid(t, list, plainDirectoryValid(list))
	for _, now := range append(timesFor(list), -1, impl.MaxTime+1) {
		checkDirectorySweep(t, list, now, plainDirectorySweep(list, now))
		for _, node := range append(nodesFor(list), -1, 100) {
			checkPutRules(t, list, node, now)
		}
	}
	for seed := -1; seed <= 2*len(list)+1; seed++ {
		for many := -1; many <= len(list)+1; many++ {
			checkDirectorySample(t, list, seed, many, plainDirectorySample(list, seed, many))
		}
	}
}

// checkDirectoryRefused fails the test if a function accepts an invalid directory, whatever the other arguments are.
func checkDirectoryRefused(t *testing.T, list []impl.Listed) {
	t.Helper()
	checkDirectoryValid(t, list, false)
	for _, now := range []int{-1, 0, 1, 500, 510, 511, impl.MaxTime, impl.MaxTime + 1} {
		checkDirectorySweep(t, list, now, nil)
		for _, node := range append([]int{-1, 0, 50, 99, 100}, nodesOf(list)...) {
			checkDirectoryPut(t, list, node, now, nil, false)
		}
	}
	for _, seed := range []int{-1, 0, 1, 7, 8, math.MaxInt} {
		for _, many := range []int{-1, 0, 1, 8, 9, math.MaxInt} {
			checkDirectorySample(t, list, seed, many, nil)
		}
	}
}

func TestDirectoriesOfAllKinds(t *testing.T) {
	for _, list := range validDirectories() {
		checkDirectoryRules(t, list)
	}
}

func TestDirectoryWithoutNodes(t *testing.T) {
	for _, none := range [][]impl.Listed{nil, {}, make([]impl.Listed, 0, 9)} {
		checkDirectoryValid(t, none, true)
		for now := range impl.MaxTime + 1 {
			checkDirectorySweep(t, none, now, nil)
			for _, node := range []int{0, 1, 42, 98, 99} {
				checkDirectoryPut(t, none, node, now, listOf(node, now), true)
			}
		}
		for _, seed := range slices.Concat(someSeeds(), notSeeds) {
			for _, many := range someSizes {
				checkDirectorySample(t, none, seed, many, nil)
			}
		}
	}
}

func TestDirectoryOfOneNode(t *testing.T) {
	for node := range 100 {
		for _, time := range []int{0, 1, 500, impl.MaxTime - 1, impl.MaxTime} {
			one := listOf(node, time)
			checkDirectoryValid(t, one, true)
			checkDirectoryPut(t, one, node, impl.MaxTime, listOf(node, impl.MaxTime), true)
			checkDirectoryPut(t, one, node, 0, one, true)
			if node > 0 {
				checkDirectoryPut(t, one, node-1, 700, listOf(node-1, 700, node, time), true)
			}
			if node < 99 {
				checkDirectoryPut(t, one, node+1, 700, listOf(node, time, node+1, 700), true)
			}
			for _, seed := range someSeeds() {
				checkDirectorySample(t, one, seed, 1, []int{node})
				checkDirectorySample(t, one, seed, 2, []int{node})
				checkDirectorySample(t, one, seed, 0, nil)
				checkDirectorySample(t, one, seed, -1, nil)
			}
		}
	}
}

// The nodes and the times at the ends of their ranges are valid at each place where they can stand.
func TestDirectoryOfFirstAndLastNodesAndTimes(t *testing.T) {
	for many := 1; many <= impl.MaxDirectory; many++ {
		for _, time := range []int{0, impl.MaxTime} {
			for _, nodes := range [][]int{nodesFrom(0, 1, many), nodesFrom(100-many, 1, many), append(nodesFrom(0, 1, many-1), 99)} {
				list := listedTogether(nodes, time)
				checkDirectoryValid(t, list, true)
				checkDirectorySweep(t, list, time, list)
				checkDirectorySweep(t, list, 0, list)
				for place := range list {
					checkDirectoryRules(t, withListed(list, place, impl.Listed{Node: nodes[place], Time: impl.MaxTime - time}))
				}
			}
		}
	}
}

// A node is not old while its time plus Life is just now or one more, and old when it is one less.
func TestDirectoryNodeBecomesOld(t *testing.T) {
	full := nodesFrom(10, 10, impl.MaxDirectory)
	for now := impl.Life + 1; now <= impl.MaxTime; now++ {
		for place, node := range full {
			list := listedTogether(full, now)
			for _, time := range []int{now - impl.Life, now - impl.Life + 1} {
				staying := withListed(list, place, impl.Listed{Node: node, Time: time})
				checkDirectorySweep(t, staying, now, staying)
				checkDirectoryPut(t, staying, 55, now, staying, false)
			}
			old := withListed(list, place, impl.Listed{Node: node, Time: now - impl.Life - 1})
			without := slices.Delete(slices.Clone(list), place, place+1)
			checkDirectorySweep(t, old, now, without)
			got, ok := impl.DirectoryPut(old, 55, now)
			if !ok || len(got) != len(list) || isListed(got, node) || !slices.Contains(got, impl.Listed{Node: 55, Time: now}) {
				t.Fatalf("DirectoryPut of %v, 55 and %d is %v, %v", old, now, got, ok)
			}
		}
	}
}

// At the first times, no node can be old, and none that announced itself at one of the last times ever becomes old.
func TestDirectoryNodesThatNeverBecomeOld(t *testing.T) {
	full := nodesFrom(3, 12, impl.MaxDirectory)
	for now := range impl.Life + 1 {
		list := listedTogether(full, 0)
		checkDirectorySweep(t, list, now, list)
		checkDirectoryPut(t, list, 50, now, list, false)
	}
	checkDirectorySweep(t, listedTogether(full, 0), impl.Life+1, nil)
	checkDirectoryPut(t, listedTogether(full, 0), 50, impl.Life+1, listOf(50, impl.Life+1), true)
	for time := impl.MaxTime - impl.Life; time <= impl.MaxTime; time++ {
		list := listedTogether(full, time)
		checkDirectorySweep(t, list, impl.MaxTime, list)
		checkDirectoryPut(t, list, 50, impl.MaxTime, list, false)
	}
	checkDirectorySweep(t, listedTogether(full, impl.MaxTime-impl.Life-1), impl.MaxTime, nil)
}

// The node is at each place of directories of each length, and some of the others are old.
func TestDirectoryPutOfAListedNode(t *testing.T) {
	for many := 1; many <= impl.MaxDirectory; many++ {
		nodes := nodesFrom(7, 9, many)
		for place, node := range nodes {
			for _, time := range []int{400, 489, 490, 500, 511, impl.MaxTime} {
				list := listedAt(nodes, []int{489, 490, 488, 500, 0, 511, 489, impl.MaxTime}[:many])
				list[place].Time = time
				for _, now := range []int{0, time - 1, time, time + 1, 500, impl.MaxTime} {
					if now > impl.MaxTime {
						continue
					}
					want := withListed(list, place, impl.Listed{Node: node, Time: max(time, now)})
					checkDirectoryPut(t, list, node, now, want, true)
				}
			}
		}
	}
}

// In a full directory of which some nodes are old, in all combinations, a new node comes before, between and behind those that stay.
func TestDirectoryPutIntoAFullDirectory(t *testing.T) {
	const now = 300
	nodes := nodesFrom(5, 12, impl.MaxDirectory)
	for old := range 1 << impl.MaxDirectory {
		list := listedTogether(nodes, now-impl.Life)
		staying := []impl.Listed{}
		for place := range list {
			if old>>place&1 == 1 {
				list[place].Time = now - impl.Life - 1 - 40*place
			} else {
				list[place].Time += 50 * place
				staying = append(staying, list[place])
			}
		}
		for node := range 100 {
			if slices.Contains(nodes, node) {
				checkPutRules(t, list, node, now)
				continue
			}
			if old == 0 {
				checkDirectoryPut(t, list, node, now, list, false)
				continue
			}
			before := 0
			for before < len(staying) && staying[before].Node < node {
				before++
			}
			want := slices.Concat(staying[:before], listOf(node, now), staying[before:])
			checkDirectoryPut(t, list, node, now, want, true)
		}
		checkDirectorySweep(t, list, now, staying)
	}
}

// A listed node in a full directory needs no room, so old nodes stay, itself among them.
func TestDirectoryPutOfAListedNodeIntoAFullDirectory(t *testing.T) {
	const now = 300
	nodes := nodesFrom(5, 12, impl.MaxDirectory)
	for old := range 1 << impl.MaxDirectory {
		list := listedTogether(nodes, now-1)
		for place := range list {
			if old>>place&1 == 1 {
				list[place].Time = now - impl.Life - 1
			}
		}
		for place, node := range nodes {
			checkDirectoryPut(t, list, node, now, withListed(list, place, impl.Listed{Node: node, Time: now}), true)
			checkDirectoryPut(t, list, node, list[place].Time, list, true)
			checkDirectoryPut(t, list, node, 0, list, true)
		}
	}
}

// With one node less than MaxDirectory there is room, so old nodes stay.
func TestDirectoryPutIntoADirectoryWithRoom(t *testing.T) {
	for many := range impl.MaxDirectory {
		nodes := nodesFrom(5, 12, many)
		for _, time := range []int{0, 289, 290, 300, impl.MaxTime} {
			list := listedTogether(nodes, time)
			for node := range 100 {
				if slices.Contains(nodes, node) {
					continue
				}
				got, ok := impl.DirectoryPut(list, node, 300)
				if !ok || len(got) != many+1 || !slices.Equal(slices.DeleteFunc(got, func(listed impl.Listed) bool { return listed.Node == node }), list) {
					t.Fatalf("DirectoryPut of %v, %d and 300 is %v, %v", list, node, got, ok)
				}
			}
		}
	}
}

// A sweep removes none, some and all nodes, of directories of each length.
func TestDirectorySweepOfNoneSomeAndAll(t *testing.T) {
	for many := 1; many <= impl.MaxDirectory; many++ {
		nodes := nodesFrom(11, 11, many)
		// The nodes become old one after the other.
		list := listedAt(nodes, nodesFrom(100, 1, many))
		back := listedAt(nodes, nodesFrom(99+many, -1, many))
		for gone := range many + 1 {
			now := 100 + impl.Life + gone
			checkDirectorySweep(t, list, now, list[gone:])
			checkDirectorySweep(t, back, now, back[:many-gone])
		}
		checkDirectorySweep(t, list, 0, list)
		checkDirectorySweep(t, list, impl.MaxTime, nil)
	}
}

// The samples are those of all numbers of nodes, beginning at each one, the last one among them.
func TestDirectorySamplesOfEachLength(t *testing.T) {
	for many := 1; many <= impl.MaxDirectory; many++ {
		nodes := nodesFrom(2, 11, many)
		list := listedTogether(nodes, 20)
		turned := slices.Concat(nodes, nodes)
		for first := range many {
			for _, seed := range []int{first, first + many, first + 2*many, first + 840, first + 840*1000*1000*1000} {
				for wanted := range many + 1 {
					checkDirectorySample(t, list, seed, wanted, turned[first:first+wanted])
				}
				for _, more := range []int{many + 1, many + 2, 2 * many, 3*many + 1, 100, math.MaxInt} {
					checkDirectorySample(t, list, seed, more, turned[first:first+many])
				}
				for _, less := range []int{-1, -2, -many, -100, math.MinInt} {
					checkDirectorySample(t, list, seed, less, nil)
				}
			}
		}
	}
}

// The times of the nodes, old ones among them, make no difference for a sample.
func TestDirectorySampleKnowsNoTimes(t *testing.T) {
	for _, list := range validDirectories() {
		same := listedTogether(nodesOf(list), 0)
		for seed := range 2*len(list) + 1 {
			for many := -1; many <= len(list)+1; many++ {
				checkDirectorySample(t, list, seed, many, impl.DirectorySample(same, seed, many))
			}
		}
	}
}

func TestDirectorySampleOfGreatSeeds(t *testing.T) {
	for _, list := range validDirectories() {
		for _, seed := range someSeeds() {
			for _, many := range []int{1, len(list), len(list) + 1} {
				checkDirectorySample(t, list, seed, many, plainDirectorySample(list, seed, many))
			}
		}
	}
}

func TestDirectoryWithTwoEqualNodes(t *testing.T) {
	for many := 2; many <= impl.MaxDirectory; many++ {
		for place := 1; place < many; place++ {
			nodes := nodesFrom(0, 14, many)
			checkDirectoryRefused(t, listedTogether(withMember(nodes, place, nodes[place-1]), 500))
			// Times that differ do not make different nodes.
			times := nodesFrom(500, 1, many)
			checkDirectoryRefused(t, listedAt(withMember(nodes, place, nodes[place-1]), times))
		}
	}
	checkDirectoryRefused(t, listOf(0, 5, 0, 5))
	checkDirectoryRefused(t, listOf(99, 5, 99, 6))
	checkDirectoryRefused(t, listOf(4, 1, 9, 1, 4, 1))
}

func TestDirectoryWithDescendingNodes(t *testing.T) {
	for many := 2; many <= impl.MaxDirectory; many++ {
		nodes := nodesFrom(1, 14, many)
		checkDirectoryRefused(t, listedTogether(nodesFrom(99, -14, many), 500))
		for place := 1; place < many; place++ {
			swapped := slices.Clone(nodes)
			swapped[place-1], swapped[place] = swapped[place], swapped[place-1]
			checkDirectoryRefused(t, listedTogether(swapped, 500))
			checkDirectoryRefused(t, listedTogether(withMember(nodes, place, nodes[place-1]-1), 500))
		}
		checkDirectoryRefused(t, listedTogether(withMember(nodes, many-1, 0), 500))
	}
}

func TestDirectoryWithTooManyNodes(t *testing.T) {
	for _, many := range []int{impl.MaxDirectory + 1, impl.MaxDirectory + 2, 2 * impl.MaxDirectory, 99, 100} {
		for _, time := range []int{0, 500, impl.MaxTime} {
			checkDirectoryRefused(t, listedTogether(nodesFrom(0, 1, many), time))
			checkDirectoryRefused(t, listedTogether(nodesFrom(100-many, 1, many), time))
		}
	}
	for _, list := range validDirectories() {
		if len(list) == impl.MaxDirectory && list[7].Node < 99 {
			checkDirectoryRefused(t, append(slices.Clone(list), impl.Listed{Node: 99, Time: 500}))
		}
	}
}

// The invalid node is the first or the last one of an ascending directory, so nothing else is invalid; at other places the order is as well.
func TestDirectoryWithAnInvalidNode(t *testing.T) {
	for many := 1; many <= impl.MaxDirectory; many++ {
		for place := range many {
			for _, invalid := range notNodes {
				list := listedTogether(nodesFrom(0, 14, many), 500)
				checkDirectoryRefused(t, withListed(list, place, impl.Listed{Node: invalid, Time: 500}))
			}
		}
	}
	checkDirectoryRefused(t, listOf(-2, 500, -1, 500))
	checkDirectoryRefused(t, listOf(100, 500, 101, 500))
	checkDirectoryRefused(t, listedTogether(nodesFrom(-1, 1, impl.MaxDirectory), 500))
	checkDirectoryRefused(t, listedTogether(nodesFrom(93, 1, impl.MaxDirectory), 500))
}

// The invalid time is tried as that of each node. It is the only reason to refuse.
func TestDirectoryWithAnInvalidTime(t *testing.T) {
	for many := 1; many <= impl.MaxDirectory; many++ {
		for place := range many {
			for _, invalid := range notTimes {
				for _, others := range []int{0, 500, impl.MaxTime} {
					list := listedTogether(nodesFrom(0, 14, many), others)
					list[place].Time = invalid
					checkDirectoryRefused(t, list)
				}
			}
		}
	}
}

func TestDirectoryPutOfInvalidNodes(t *testing.T) {
	for _, list := range validDirectories() {
		for _, node := range notNodes {
			for _, now := range []int{-1, 0, 500, impl.MaxTime, impl.MaxTime + 1} {
				checkDirectoryPut(t, list, node, now, nil, false)
			}
		}
	}
}

func TestDirectoryAtInvalidTimes(t *testing.T) {
	for _, list := range validDirectories() {
		for _, now := range notTimes {
			checkDirectorySweep(t, list, now, nil)
			for _, node := range append(nodesOf(list), -1, 0, 50, 99, 100) {
				checkDirectoryPut(t, list, node, now, nil, false)
			}
		}
	}
}

// Invalid arguments are checked first: a full directory without old nodes is not returned if the node or the time is invalid.
func TestDirectoryPutChecksInvalidArgumentsFirst(t *testing.T) {
	full := listedTogether(nodesFrom(1, 12, impl.MaxDirectory), impl.MaxTime)
	checkDirectoryPut(t, full, 50, impl.MaxTime, full, false)
	for _, node := range notNodes {
		checkDirectoryPut(t, full, node, impl.MaxTime, nil, false)
	}
	for _, now := range notTimes {
		checkDirectoryPut(t, full, 50, now, nil, false)
		checkDirectoryPut(t, full, full[0].Node, now, nil, false)
	}
}

func TestDirectorySampleOfInvalidSeeds(t *testing.T) {
	for _, list := range validDirectories() {
		for _, seed := range notSeeds {
			for _, many := range someSizes {
				checkDirectorySample(t, list, seed, many, nil)
			}
		}
	}
}

// mixedListed returns a directory that is valid in most cases, and out of order, out of range or too long otherwise.
func mixedListed(random *rand.Rand) []impl.Listed {
	many := random.Intn(impl.MaxDirectory + 1)
	if random.Intn(3) == 0 {
		many = impl.MaxDirectory
	}
	if random.Intn(20) == 0 {
		many = impl.MaxDirectory + 1 + random.Intn(3)
	}
	first, count := random.Intn(impl.MaxTime), 1+random.Intn(30)
	list := listedAt(randomNodes(random, many), randomTimes(random, many, first, count))
	if many == 0 {
		return list
	}
	switch place := random.Intn(many); random.Intn(16) {
	case 0:
		list[place].Node = notNodes[random.Intn(len(notNodes))]
	case 1:
		list[place].Time = notTimes[random.Intn(len(notTimes))]
	case 2:
		list[place].Node = list[random.Intn(many)].Node
	case 3:
		list[place].Node = random.Intn(100)
	}
	return list
}

func TestDirectoriesFollowTheirRules(t *testing.T) {
	random := rand.New(rand.NewSource(61))
	valid, full, rounds := 0, 0, 3000
	for range rounds {
		list := mixedListed(random)
		checkDirectoryRules(t, list)
		checkPutRules(t, list, random.Intn(100), random.Intn(impl.MaxTime+1))
		checkPutRules(t, list, notNodes[random.Intn(len(notNodes))], random.Intn(impl.MaxTime+1))
		checkPutRules(t, list, random.Intn(100), notTimes[random.Intn(len(notTimes))])
		if plainDirectoryValid(list) {
			valid++
			if len(list) == impl.MaxDirectory {
				full++
			}
		}
	}
	if valid < rounds/2 || valid > rounds*19/20 || full < rounds/5 {
		t.Errorf("%d of %d directories are valid, and %d of these are full", valid, rounds, full)
	}
}

// Nodes announce themselves while the time goes on, so that each result is the next argument and nodes become old.
func TestDirectoryOfManySteps(t *testing.T) {
	random := rand.New(rand.NewSource(62))
	failed, swept := 0, 0
	for range 300 {
		list := []impl.Listed{}
		nodes := random.Perm(100)[:impl.MaxDirectory+1+random.Intn(20)]
		for now := 0; now <= impl.MaxTime; now += random.Intn(4) * random.Intn(3) {
			if random.Intn(20) == 0 {
				checkDirectorySweep(t, list, now, plainDirectorySweep(list, now))
				list = impl.DirectorySweep(list, now)
				continue
			}
			node := nodes[random.Intn(len(nodes))]
			checkPutRules(t, list, node, now)
			got, ok := impl.DirectoryPut(list, node, now)
			if !ok {
				failed++
			}
			if len(got) < len(list) {
				swept++
			}
			list = got
		}
	}
	if failed < 1000 || swept < 1000 {
		t.Errorf("only %d steps fail, and %d remove more than one node", failed, swept)
	}
}
