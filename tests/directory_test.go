package tests

import (
	"math"
	"slices"
	"testing"

	"loop.example/feedswarm/impl"
)

func TestDirectoryConstants(t *testing.T) {
	if impl.MaxDirectory != 8 || impl.MaxTime != 999 || impl.Life != 10 {
		t.Errorf("MaxDirectory is %d, MaxTime is %d, Life is %d", impl.MaxDirectory, impl.MaxTime, impl.Life)
	}
}

// The values of this test are written out by the document's rules.
func TestDirectoryValues(t *testing.T) {
	checkDirectoryPut(t, nil, 42, 100, listOf(42, 100), true)
	list := listOf(3, 100, 42, 90, 99, 89)
	checkDirectoryValid(t, list, true)
	checkDirectoryPut(t, list, 42, 95, listOf(3, 100, 42, 95, 99, 89), true)
	checkDirectoryPut(t, list, 42, 90, list, true)
	checkDirectoryPut(t, list, 42, 50, list, true)
	checkDirectoryPut(t, list, 0, 100, listOf(0, 100, 3, 100, 42, 90, 99, 89), true)
	checkDirectoryPut(t, list, 43, 999, listOf(3, 100, 42, 90, 43, 999, 99, 89), true)
	checkDirectoryPut(t, list, 100, 100, nil, false)
	checkDirectoryPut(t, list, 50, 1000, nil, false)
	checkDirectorySweep(t, list, 99, list)
	checkDirectorySweep(t, list, 100, listOf(3, 100, 42, 90))
	checkDirectorySweep(t, list, 101, listOf(3, 100))
	checkDirectorySweep(t, list, 110, listOf(3, 100))
	checkDirectorySweep(t, list, 111, nil)
	checkDirectorySweep(t, list, 1000, nil)
	checkDirectorySample(t, list, 0, 2, []int{3, 42})
	checkDirectorySample(t, list, 2, 2, []int{99, 3})
	checkDirectorySample(t, list, 4, 3, []int{42, 99, 3})
	checkDirectorySample(t, list, 5, 9, []int{99, 3, 42})
	checkDirectorySample(t, list, 1, 0, nil)
	checkDirectorySample(t, list, 1, -1, nil)
	checkDirectorySample(t, list, -1, 2, nil)
}

// These values, of a full directory, are written out by the document's rules, too.
func TestFullDirectoryValues(t *testing.T) {
	list := listOf(10, 200, 20, 190, 30, 201, 40, 191, 50, 999, 60, 189, 70, 195, 80, 200)
	checkDirectoryPut(t, list, 55, 199, list, false)
	checkDirectoryPut(t, list, 55, 200, listOf(10, 200, 20, 190, 30, 201, 40, 191, 50, 999, 55, 200, 70, 195, 80, 200), true)
	checkDirectoryPut(t, list, 55, 201, listOf(10, 200, 30, 201, 40, 191, 50, 999, 55, 201, 70, 195, 80, 200), true)
	checkDirectoryPut(t, list, 0, 211, listOf(0, 211, 30, 201, 50, 999), true)
	checkDirectoryPut(t, list, 99, 999, listOf(50, 999, 99, 999), true)
	checkDirectoryPut(t, list, 55, 0, list, false)
	checkDirectoryPut(t, list, 60, 205, withListed(list, 5, impl.Listed{Node: 60, Time: 205}), true)
	checkDirectoryPut(t, list, 60, 100, list, true)
	checkDirectoryValid(t, append(slices.Clone(list), impl.Listed{Node: 90, Time: 200}), false)
}

func TestPromise140PutDirectoryIsValidAndHasTheNode(t *testing.T) {
	succeeded, earlier := 0, 0
	eachPut(func(list []impl.Listed, node int, now int) {
		got, ok := impl.DirectoryPut(list, node, now)
		if !ok {
			return
		}
		if !impl.DirectoryValid(got) || !plainDirectoryValid(got) {
			t.Fatalf("DirectoryPut of %v, %d and %d is %v", list, node, now, got)
		}
		place := slices.Index(nodesOf(got), node)
		if place < 0 || got[place].Time < now {
			t.Fatalf("DirectoryPut of %v, %d and %d is %v", list, node, now, got)
		}
		succeeded++
		if got[place].Time > now {
			earlier++
		}
	})
	if succeeded < 100000 || earlier < 5000 {
		t.Errorf("DirectoryPut succeeds only %d times, %d of them with an earlier time", succeeded, earlier)
	}
}

// All nodes are tried in directories with each number of nodes.
func TestPromise140EachNode(t *testing.T) {
	for _, list := range fewDirectories() {
		for node := range 100 {
			got, ok := impl.DirectoryPut(list, node, impl.MaxTime)
			if !ok {
				continue
			}
			if !impl.DirectoryValid(got) || !plainDirectoryValid(got) || !slices.Contains(got, impl.Listed{Node: node, Time: impl.MaxTime}) {
				t.Fatalf("DirectoryPut of %v and %d is %v", list, node, got)
			}
		}
	}
}

func TestPromise141NodesThatMayStayAreKept(t *testing.T) {
	succeeded, failed, removed := 0, 0, 0
	eachPut(func(list []impl.Listed, node int, now int) {
		got, ok := impl.DirectoryPut(list, node, now)
		for _, listed := range list {
			if listed.Node == node {
				// Only its own time may become a later one.
				listed.Time = max(listed.Time, now)
			}
			kept := slices.Contains(got, listed)
			if mayStay(listed, now) && !kept {
				t.Fatalf("DirectoryPut of %v, %d and %d is %v, without %v", list, node, now, got, listed)
			}
			switch {
			case !kept:
				removed++
			case ok:
				succeeded++
			default:
				failed++
			}
		}
	})
	if succeeded < 100000 || failed < 20000 || removed < 20000 {
		t.Errorf("only %d nodes are kept with success, %d without it, and %d nodes are removed", succeeded, failed, removed)
	}
}

// While there is room, the others are kept even if they are old.
func TestPromise141OldNodesAreKeptWhileThereIsRoom(t *testing.T) {
	kept := 0
	eachPut(func(list []impl.Listed, node int, now int) {
		if len(list) == impl.MaxDirectory && !isListed(list, node) {
			return
		}
		got, _ := impl.DirectoryPut(list, node, now)
		for _, listed := range list {
			if listed.Node == node {
				continue
			}
			if !slices.Contains(got, listed) {
				t.Fatalf("DirectoryPut of %v, %d and %d is %v, without %v", list, node, now, got, listed)
			}
			if !mayStay(listed, now) {
				kept++
			}
		}
	})
	if kept < 50000 {
		t.Errorf("only %d old nodes are kept", kept)
	}
}

func TestPromise142FailsOnlyWithoutRoom(t *testing.T) {
	failed, succeeded := 0, 0
	eachPut(func(list []impl.Listed, node int, now int) {
		got, ok := impl.DirectoryPut(list, node, now)
		full := len(list) == impl.MaxDirectory && !isListed(list, node) && len(stayingOf(list, now)) == len(list)
		if ok == full {
			t.Fatalf("DirectoryPut of %v, %d and %d is %v, %v", list, node, now, got, ok)
		}
		if ok {
			succeeded++
			return
		}
		if !slices.Equal(got, list) {
			t.Fatalf("DirectoryPut of %v, %d and %d fails with %v", list, node, now, got)
		}
		failed++
	})
	if failed < 5000 || succeeded < 100000 {
		t.Errorf("DirectoryPut fails only %d times and succeeds %d times", failed, succeeded)
	}
}

func TestPromise143PutAgainChangesNothing(t *testing.T) {
	changed := 0
	eachPut(func(list []impl.Listed, node int, now int) {
		once, ok := impl.DirectoryPut(list, node, now)
		if !ok {
			// What has failed fails again, as nothing has changed.
			checkDirectoryPut(t, once, node, now, list, false)
			return
		}
		checkDirectoryPut(t, once, node, now, once, true)
		if !slices.Equal(once, list) {
			changed++
		}
	})
	if changed < 100000 {
		t.Errorf("only %d directories are changed", changed)
	}
}

func TestPromise144SweepKeepsExactlyTheOthers(t *testing.T) {
	kept, removed := 0, 0
	for _, list := range validDirectories() {
		for _, now := range timesFor(list) {
			got := impl.DirectorySweep(list, now)
			if !impl.DirectoryValid(got) {
				t.Fatalf("DirectorySweep of %v and %d is %v", list, now, got)
			}
			for _, listed := range list {
				if slices.Contains(got, listed) != mayStay(listed, now) {
					t.Fatalf("DirectorySweep of %v and %d is %v", list, now, got)
				}
			}
			for _, listed := range got {
				if !slices.Contains(list, listed) {
					t.Fatalf("DirectorySweep of %v and %d is %v", list, now, got)
				}
			}
			kept += len(got)
			removed += len(list) - len(got)
		}
	}
	if kept < 20000 || removed < 20000 {
		t.Errorf("only %d nodes are kept and %d are removed", kept, removed)
	}
}

// Each time is tried with each difference near to Life.
func TestPromise144EachTime(t *testing.T) {
	for now := range impl.MaxTime + 1 {
		for time := max(0, now-2*impl.Life); time <= min(now+impl.Life, impl.MaxTime); time++ {
			list := []impl.Listed{{Node: now % 100, Time: time}}
			if now <= time+impl.Life {
				checkDirectorySweep(t, list, now, list)
			} else {
				checkDirectorySweep(t, list, now, nil)
			}
		}
	}
}

func TestPromise145SweepAgainChangesNothing(t *testing.T) {
	changed := 0
	for _, list := range validDirectories() {
		for _, now := range timesFor(list) {
			once := impl.DirectorySweep(list, now)
			checkDirectorySweep(t, once, now, once)
			if len(once) > 0 && len(once) < len(list) {
				changed++
			}
		}
	}
	if changed < 2000 {
		t.Errorf("only %d directories lose a part of their nodes", changed)
	}
}

func TestPromise146SampleHasNodesEachOnce(t *testing.T) {
	none, part, whole := 0, 0, 0
	for _, list := range validDirectories() {
		for _, seed := range someSeeds() {
			for _, many := range someSizes {
				sample := impl.DirectorySample(list, seed, many)
				for place, node := range sample {
					if !isListed(list, node) || slices.Contains(sample[:place], node) {
						t.Fatalf("DirectorySample of %v, %d and %d is %v", list, seed, many, sample)
					}
				}
				if len(sample) != min(max(many, 0), len(list)) {
					t.Fatalf("DirectorySample of %v, %d and %d is %v", list, seed, many, sample)
				}
				switch len(sample) {
				case 0:
					none++
				case len(list):
					whole++
				default:
					part++
				}
			}
		}
	}
	if none < 50000 || part < 50000 || whole < 50000 {
		t.Errorf("%d samples have no nodes, %d have a part of them and %d have all", none, part, whole)
	}
}

func TestPromise147EachNodeIsFirst(t *testing.T) {
	tried := 0
	eachSeed(func(list []impl.Listed, seed int) {
		if seed > math.MaxInt-len(list)+1 {
			return
		}
		first := []int{}
		for number := range list {
			sample := impl.DirectorySample(list, seed+number, 1)
			if len(sample) != 1 {
				t.Fatalf("DirectorySample of %v, %d and 1 is %v", list, seed+number, sample)
			}
			first = append(first, sample[0])
		}
		slices.Sort(first)
		if !slices.Equal(first, nodesOf(list)) {
			t.Fatalf("the numbers from %d on give %v as the first nodes of %v", seed, first, list)
		}
		tried++
	})
	if tried < 50000 {
		t.Errorf("only %d numbers are tried", tried)
	}
}

// The first node is the same in larger samples.
func TestPromise147EachNodeIsFirstInLargerSamples(t *testing.T) {
	for _, list := range fewDirectories() {
		for many := 1; many <= impl.MaxDirectory+1; many++ {
			first := []int{}
			for seed := range list {
				if sample := impl.DirectorySample(list, seed, many); len(sample) > 0 {
					first = append(first, sample[0])
				}
			}
			slices.Sort(first)
			if !slices.Equal(first, nodesOf(list)) {
				t.Fatalf("samples of %d nodes of %v begin with %v", many, list, first)
			}
		}
	}
}

func TestPromise148SampleOfFewerIsTheBeginning(t *testing.T) {
	eachSeed(func(list []impl.Listed, seed int) {
		more := impl.DirectorySample(list, seed, impl.MaxDirectory+2)
		for many := impl.MaxDirectory + 1; many >= 0; many-- {
			fewer := impl.DirectorySample(list, seed, many)
			if len(fewer) > len(more) || !slices.Equal(fewer, more[:len(fewer)]) {
				t.Fatalf("DirectorySample of %v and %d is %v, and %v of more nodes", list, seed, fewer, more)
			}
			more = fewer
		}
	})
}

func TestPromise149AtMostOneNodeMore(t *testing.T) {
	more, same, fewer := 0, 0, 0
	eachPut(func(list []impl.Listed, node int, now int) {
		got, _ := impl.DirectoryPut(list, node, now)
		if len(got) > impl.MaxDirectory || len(got) > len(list)+1 {
			t.Fatalf("DirectoryPut of %v, %d and %d is %v", list, node, now, got)
		}
		switch {
		case len(got) > len(list):
			more++
		case len(got) == len(list):
			same++
		default:
			fewer++
		}
	})
	if more < 50000 || same < 50000 || fewer < 1000 {
		t.Errorf("%d directories grow, %d keep their length and %d shrink", more, same, fewer)
	}
}

// Nodes are listed one after the other until there is no room.
func TestPromise149DirectoryGrowsToMaxDirectory(t *testing.T) {
	for _, nodes := range [][]int{nodesFrom(0, 1, 20), nodesFrom(99, -1, 20), {50, 40, 60, 45, 55, 0, 99, 47, 53, 1, 98}} {
		list := []impl.Listed{}
		for number, node := range nodes {
			got, ok := impl.DirectoryPut(list, node, 7)
			if len(got) != min(number+1, impl.MaxDirectory) || ok != (number < impl.MaxDirectory) {
				t.Fatalf("DirectoryPut of %v, %d and 7 is %v, %v", list, node, got, ok)
			}
			list = got
		}
	}
}

func TestPromise150SampleOfAllHasAll(t *testing.T) {
	turned := 0
	eachSeed(func(list []impl.Listed, seed int) {
		sample := impl.DirectorySample(list, seed, len(list))
		if !slices.Equal(slices.Sorted(slices.Values(sample)), nodesOf(list)) {
			t.Fatalf("DirectorySample of %v, %d and all is %v", list, seed, sample)
		}
		if !slices.IsSorted(sample) {
			turned++
		}
	})
	if turned < 20000 {
		t.Errorf("only %d samples do not begin at the first node", turned)
	}
}

func TestPromise151SampleIsTheSameLater(t *testing.T) {
	tried := 0
	eachSeed(func(list []impl.Listed, seed int) {
		if seed > math.MaxInt-len(list) {
			return
		}
		for _, many := range someSizes {
			checkDirectorySample(t, list, seed+len(list), many, impl.DirectorySample(list, seed, many))
			tried++
		}
	})
	if tried < 500000 {
		t.Errorf("only %d samples are compared", tried)
	}
}

// For less than as many it is another one, so the number of nodes is the least such number.
func TestPromise151SampleIsAnotherOneBefore(t *testing.T) {
	for _, list := range fewDirectories() {
		for seed := range 2 * impl.MaxDirectory {
			for step := 1; step < len(list); step++ {
				sample, later := impl.DirectorySample(list, seed, 3), impl.DirectorySample(list, seed+step, 3)
				if slices.Equal(sample, later) {
					t.Fatalf("DirectorySample of %v is %v for %d and for %d", list, sample, seed, seed+step)
				}
			}
		}
	}
}
