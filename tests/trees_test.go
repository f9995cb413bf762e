package tests

import (
	"math/bits"
	"math/rand"
	"slices"
	"testing"

	"loop.example/feedswarm/impl"
)

// treeLeaves returns the leaves for which the values of this file are computed outside of the program.
func treeLeaves(n int) []int {
	leaves := []int{}
	for i := range n {
		leaves = append(leaves, (60*i+7)%impl.Digests)
	}
	return leaves
}

// treeLists returns leaves of every valid number, with the smallest and the greatest digest, equal and mixed ones.
func treeLists() [][]int {
	random := rand.New(rand.NewSource(2))
	lists := [][]int{}
	for n := 0; n <= impl.MaxBlocks; n++ {
		lists = append(lists, treeLeaves(n), slices.Repeat([]int{0}, n), slices.Repeat([]int{impl.Digests - 1}, n))
		for range 2 {
			leaves := []int{}
			for range n {
				leaves = append(leaves, random.Intn(impl.Digests))
			}
			lists = append(lists, leaves)
		}
	}
	return lists
}

// withMember returns a copy of a list with one member replaced.
func withMember(list []int, place int, member int) []int {
	changed := slices.Clone(list)
	changed[place] = member
	return changed
}

// withFurther returns a copy of a list with a further member.
func withFurther(list []int, member int) []int {
	return append(slices.Clone(list), member)
}

func TestTreeConstants(t *testing.T) {
	if impl.MaxBlocks != 16 {
		t.Errorf("MaxBlocks is %d", impl.MaxBlocks)
	}
}

func TestTreePeaksAndDigestValues(t *testing.T) {
	for n, want := range []struct {
		peaks  []int
		digest int
	}{
		{[]int{}, 0},
		{[]int{7}, 155},
		{[]int{370}, 411},
		{[]int{370, 127}, 10},
		{[]int{729}, 630},
		{[]int{729, 247}, 911},
		{[]int{729, 989}, 612},
		{[]int{729, 989, 367}, 502},
		{[]int{6}, 355},
		{[]int{6, 487}, 430},
		{[]int{6, 617}, 628},
		{[]int{6, 617, 607}, 123},
		{[]int{6, 693}, 869},
		{[]int{6, 693, 727}, 715},
		{[]int{6, 693, 245}, 510},
		{[]int{6, 693, 245, 847}, 393},
		{[]int{647}, 599},
	} {
		leaves := treeLeaves(n)
		if got := impl.TreePeaks(leaves); !slices.Equal(got, want.peaks) {
			t.Errorf("TreePeaks of %d leaves is %v, not %v", n, got, want.peaks)
		}
		if got := impl.TreeDigest(leaves); got != want.digest {
			t.Errorf("TreeDigest of %d leaves is %d, not %d", n, got, want.digest)
		}
	}
}

func TestTreeValuesOfTheFirstAndLastDigest(t *testing.T) {
	for _, c := range []struct{ leaf, n, peak, digest int }{
		{0, 1, 0, 36},
		{impl.Digests - 1, 1, impl.Digests - 1, 19},
		{0, impl.MaxBlocks, 846, 18},
		{impl.Digests - 1, impl.MaxBlocks, 226, 379},
	} {
		leaves := slices.Repeat([]int{c.leaf}, c.n)
		if got := impl.TreePeaks(leaves); !slices.Equal(got, []int{c.peak}) {
			t.Errorf("TreePeaks of %d times %d is %v, not %d", c.n, c.leaf, got, c.peak)
		}
		if got := impl.TreeDigest(leaves); got != c.digest {
			t.Errorf("TreeDigest of %d times %d is %d, not %d", c.n, c.leaf, got, c.digest)
		}
	}
}

func TestTreeProofValues(t *testing.T) {
	for _, c := range []struct {
		n, i int
		want []int
	}{
		{1, 0, []int{}},
		{2, 0, []int{67}},
		{2, 1, []int{7}},
		{3, 2, []int{370}},
		{15, 0, []int{67, 184, 711, 693, 245, 847}},
		{15, 5, []int{247, 803, 729, 693, 245, 847}},
		{15, 7, []int{367, 989, 729, 693, 245, 847}},
		{15, 8, []int{547, 431, 6, 245, 847}},
		{15, 11, []int{607, 617, 6, 245, 847}},
		{15, 12, []int{787, 6, 693, 847}},
		{15, 13, []int{727, 6, 693, 847}},
		{15, 14, []int{6, 693, 245}},
		{16, 0, []int{67, 184, 711, 260}},
		{16, 9, []int{487, 431, 675, 6}},
		{16, 15, []int{847, 245, 693, 6}},
	} {
		if got := impl.TreeProof(treeLeaves(c.n), c.i); !slices.Equal(got, c.want) {
			t.Errorf("TreeProof of leaf %d of %d is %v, not %v", c.i, c.n, got, c.want)
		}
	}
}

func TestTreeGrowthValues(t *testing.T) {
	for _, c := range []struct {
		n, m int
		want []int
	}{
		{0, 0, []int{}},
		{1, 0, []int{7}},
		{1, 1, []int{7}},
		{15, 0, []int{6, 693, 245, 847}},
		{15, 1, []int{7, 67, 184, 711, 693, 245, 847}},
		{15, 3, []int{370, 127, 187, 711, 693, 245, 847}},
		{15, 5, []int{729, 247, 307, 803, 693, 245, 847}},
		{15, 8, []int{6, 693, 245, 847}},
		{15, 15, []int{6, 693, 245, 847}},
		{16, 0, []int{647}},
		{16, 1, []int{7, 67, 184, 711, 260}},
		{16, 7, []int{729, 989, 367, 427, 260}},
		{16, 8, []int{6, 260}},
		{16, 15, []int{6, 693, 245, 847, 907}},
		{16, 16, []int{647}},
	} {
		if got := impl.TreeGrowth(treeLeaves(c.n), c.m); !slices.Equal(got, c.want) {
			t.Errorf("TreeGrowth of %d of %d leaves is %v, not %v", c.m, c.n, got, c.want)
		}
	}
}

func TestPromise6OnePeakForEachBit(t *testing.T) {
	for _, leaves := range treeLists() {
		if got := len(impl.TreePeaks(leaves)); got != bits.OnesCount(uint(len(leaves))) {
			t.Errorf("%d leaves have %d peaks", len(leaves), got)
		}
	}
}

func TestPromise7FurtherLeafOfEvenNumber(t *testing.T) {
	for _, leaves := range treeLists() {
		if len(leaves)%2 != 0 || len(leaves) == impl.MaxBlocks {
			continue
		}
		for _, leaf := range []int{0, 1, 500, impl.Digests - 1} {
			want := withFurther(impl.TreePeaks(leaves), leaf)
			if got := impl.TreePeaks(withFurther(leaves, leaf)); !slices.Equal(got, want) {
				t.Errorf("TreePeaks of %v and %d is %v, not %v", leaves, leaf, got, want)
			}
		}
	}
}

func TestPromise8PeaksOfOneAndTwoLeaves(t *testing.T) {
	for a := 0; a < impl.Digests; a++ {
		if got := impl.TreePeaks([]int{a}); !slices.Equal(got, []int{a}) {
			t.Fatalf("TreePeaks of the leaf %d is %v", a, got)
		}
		for _, b := range []int{0, 1, a, impl.Digests - 1 - a, impl.Digests - 1} {
			if got := impl.TreePeaks([]int{a, b}); !slices.Equal(got, []int{impl.DigestPair(a, b)}) {
				t.Fatalf("TreePeaks of %d and %d is %v", a, b, got)
			}
		}
	}
}

func TestPromise9DigestCombinesThePeaks(t *testing.T) {
	for _, leaves := range treeLists() {
		want := len(leaves)
		for _, peak := range impl.TreePeaks(leaves) {
			want = impl.DigestPair(want, peak)
		}
		if got := impl.TreeDigest(leaves); got != want {
			t.Errorf("TreeDigest of %v is %d, not %d", leaves, got, want)
		}
	}
}

func TestPromise10OtherLeafOtherDigest(t *testing.T) {
	for _, leaves := range treeLists() {
		d := impl.TreeDigest(leaves)
		for i := range leaves {
			for leaf := 0; leaf < impl.Digests; leaf++ {
				same := leaf == leaves[i]
				if (impl.TreeDigest(withMember(leaves, i, leaf)) == d) != same {
					t.Fatalf("%v, with digest %d, and with %d at %d: the digest must be the same only for the same leaf", leaves, d, leaf, i)
				}
			}
		}
	}
}

func TestPromise11ProofIsAccepted(t *testing.T) {
	for _, leaves := range treeLists() {
		d := impl.TreeDigest(leaves)
		for i, leaf := range leaves {
			if proof := impl.TreeProof(leaves, i); !impl.TreeCheck(d, len(leaves), i, leaf, proof) {
				t.Errorf("the proof %v of leaf %d of %v is rejected", proof, i, leaves)
			}
		}
	}
}

func TestPromise12OtherLeafOrTreeIsRejected(t *testing.T) {
	for _, leaves := range treeLists() {
		d := impl.TreeDigest(leaves)
		for i, leaf := range leaves {
			proof := impl.TreeProof(leaves, i)
			for other := 0; other < impl.Digests; other++ {
				if impl.TreeCheck(d, len(leaves), i, other, proof) != (other == leaf) {
					t.Fatalf("the proof of leaf %d of %v is accepted with the leaf %d, or not with its own", i, leaves, other)
				}
				if impl.TreeCheck(other, len(leaves), i, leaf, proof) != (other == d) {
					t.Fatalf("the proof of leaf %d of %v is accepted with the digest %d, or not with its own", i, leaves, other)
				}
			}
		}
	}
}

func TestPromise13ProofLength(t *testing.T) {
	longest := 0
	for _, leaves := range treeLists() {
		d := impl.TreeDigest(leaves)
		for i, leaf := range leaves {
			proof := impl.TreeProof(leaves, i)
			longest = max(longest, len(proof))
			for further := 0; further < impl.Digests; further++ {
				if impl.TreeCheck(d, len(leaves), i, leaf, withFurther(proof, further)) {
					t.Fatalf("the proof of leaf %d of %v is accepted with a further %d", i, leaves, further)
				}
			}
			if len(proof) > 0 && impl.TreeCheck(d, len(leaves), i, leaf, proof[:len(proof)-1]) {
				t.Errorf("the proof of leaf %d of %v is accepted without its last member", i, leaves)
			}
		}
	}
	if longest != 6 {
		t.Errorf("the longest proof has %d digests", longest)
	}
}

// The digest is that of the changed proof, so only the number of members can be the reason to reject it.
func TestPromise13LengthAloneCounts(t *testing.T) {
	for n := 1; n <= impl.MaxBlocks; n++ {
		for i := range n {
			many := len(impl.TreeProof(treeLeaves(n), i))
			for length := range 10 {
				accepted := false
				for d := 0; d < impl.Digests; d++ {
					accepted = accepted || impl.TreeCheck(d, n, i, 1, slices.Repeat([]int{2}, length))
				}
				if accepted != (length == many) {
					t.Errorf("n %d, i %d, %d members: accepted with some digest is %v", n, i, length, accepted)
				}
			}
		}
	}
}

func TestPromise14ChangedProofIsRejected(t *testing.T) {
	for _, leaves := range treeLists() {
		d := impl.TreeDigest(leaves)
		for i, leaf := range leaves {
			proof := impl.TreeProof(leaves, i)
			for place := range proof {
				for member := 0; member < impl.Digests; member++ {
					same := member == proof[place]
					if impl.TreeCheck(d, len(leaves), i, leaf, withMember(proof, place, member)) != same {
						t.Fatalf("the proof %v of leaf %d of %v with %d at %d is judged wrongly", proof, i, leaves, member, place)
					}
				}
			}
		}
	}
}

func TestPromise15GrowthIsAccepted(t *testing.T) {
	for _, leaves := range treeLists() {
		for m := range len(leaves) + 1 {
			proof := impl.TreeGrowth(leaves, m)
			if !impl.TreeGrowthCheck(m, impl.TreeDigest(leaves[:m]), len(leaves), impl.TreeDigest(leaves), proof) {
				t.Errorf("the growth %v of %d of %v is rejected", proof, m, leaves)
			}
		}
	}
}

func TestPromise16GrowthBeginsWithPeaks(t *testing.T) {
	for _, leaves := range treeLists() {
		for m := range len(leaves) + 1 {
			proof, first := impl.TreeGrowth(leaves, m), impl.TreePeaks(leaves[:m])
			if len(proof) < len(first) || !slices.Equal(proof[:len(first)], first) {
				t.Errorf("the growth %v of %d of %v does not begin with %v", proof, m, leaves, first)
			}
		}
		peaks := impl.TreePeaks(leaves)
		if got := impl.TreeGrowth(leaves, len(leaves)); !slices.Equal(got, peaks) {
			t.Errorf("the growth of all of %v is %v, not %v", leaves, got, peaks)
		}
		if got := impl.TreeGrowth(leaves, 0); !slices.Equal(got, peaks) {
			t.Errorf("the growth of none of %v is %v, not %v", leaves, got, peaks)
		}
	}
}

func TestPromise17OtherDigestsOfGrowthAreRejected(t *testing.T) {
	for _, leaves := range treeLists() {
		n, d := len(leaves), impl.TreeDigest(leaves)
		for m := range n + 1 {
			proof, old := impl.TreeGrowth(leaves, m), impl.TreeDigest(leaves[:m])
			for other := 0; other < impl.Digests; other++ {
				if impl.TreeGrowthCheck(m, other, n, d, proof) != (other == old) {
					t.Fatalf("the growth of %d of %v is judged wrongly with the old digest %d", m, leaves, other)
				}
				if impl.TreeGrowthCheck(m, old, n, other, proof) != (other == d) {
					t.Fatalf("the growth of %d of %v is judged wrongly with the new digest %d", m, leaves, other)
				}
			}
		}
	}
}

func TestPromise18ChangedGrowthIsRejected(t *testing.T) {
	for _, leaves := range treeLists() {
		n, d := len(leaves), impl.TreeDigest(leaves)
		for m := range n + 1 {
			proof, old := impl.TreeGrowth(leaves, m), impl.TreeDigest(leaves[:m])
			for member := 0; member < impl.Digests; member++ {
				for place := range proof {
					same := member == proof[place]
					if impl.TreeGrowthCheck(m, old, n, d, withMember(proof, place, member)) != same {
						t.Fatalf("the growth %v of %d of %v with %d at %d is judged wrongly", proof, m, leaves, member, place)
					}
				}
				if impl.TreeGrowthCheck(m, old, n, d, withFurther(proof, member)) {
					t.Fatalf("the growth %v of %d of %v is accepted with a further %d", proof, m, leaves, member)
				}
			}
			if len(proof) > 0 && impl.TreeGrowthCheck(m, old, n, d, proof[:len(proof)-1]) {
				t.Errorf("the growth %v of %d of %v is accepted without its last member", proof, m, leaves)
			}
		}
	}
}

// The old digest counts by itself: here, two members are changed so that the new digest stays.
func TestPromise18OldDigestCounts(t *testing.T) {
	leaves := treeLeaves(2)
	d, old := impl.TreeDigest(leaves), impl.TreeDigest(leaves[:1])
	same := 0
	for a := 0; a < impl.Digests; a++ {
		for b := 0; b < impl.Digests; b++ {
			if impl.TreeDigest([]int{a, b}) != d {
				continue
			}
			same++
			if impl.TreeGrowthCheck(1, old, 2, d, []int{a, b}) != (a == leaves[0]) {
				t.Fatalf("the growth from %d to %d and %d is judged wrongly", leaves[0], a, b)
			}
		}
	}
	if same != impl.Digests {
		t.Errorf("%d pairs have the digest %d", same, d)
	}
}

func TestPromise19GrowthLength(t *testing.T) {
	for _, leaves := range treeLists() {
		for m := range len(leaves) + 1 {
			if got := len(impl.TreeGrowth(leaves, m)); got > 9 {
				t.Errorf("the growth of %d of %d leaves has %d digests", m, len(leaves), got)
			}
		}
	}
}

func TestPromise20NoLeavesAndOneLeaf(t *testing.T) {
	if impl.TreeDigest(nil) != 0 || impl.TreeDigest([]int{}) != 0 {
		t.Errorf("TreeDigest of no leaves is %d, %d", impl.TreeDigest(nil), impl.TreeDigest([]int{}))
	}
	for leaf := 0; leaf < impl.Digests; leaf++ {
		d := impl.DigestPair(1, leaf)
		if got := impl.TreeDigest([]int{leaf}); got != d {
			t.Fatalf("TreeDigest of %d is %d, not %d", leaf, got, d)
		}
		if got := impl.TreeProof([]int{leaf}, 0); len(got) != 0 {
			t.Fatalf("TreeProof of %d is %v", leaf, got)
		}
		if !impl.TreeCheck(d, 1, 0, leaf, nil) || !impl.TreeCheck(d, 1, 0, leaf, []int{}) {
			t.Fatalf("the empty proof of %d is rejected", leaf)
		}
	}
}

func TestPromise21OnePeakOfPowersOfTwo(t *testing.T) {
	for _, leaves := range treeLists() {
		for _, n := range []int{1, 2, 4, 8, 16} {
			if n <= len(leaves) && len(impl.TreePeaks(leaves[:n])) != 1 {
				t.Errorf("the first %d of %v have the peaks %v", n, leaves, impl.TreePeaks(leaves[:n]))
			}
		}
	}
}

func TestPromise22PeakOfBothHalves(t *testing.T) {
	for _, leaves := range treeLists() {
		n := len(leaves)
		if n < 2 || bits.OnesCount(uint(n)) != 1 {
			continue
		}
		left, right := impl.TreePeaks(leaves[:n/2]), impl.TreePeaks(leaves[n/2:])
		if len(left) != 1 || len(right) != 1 {
			t.Fatalf("the halves of %v have the peaks %v and %v", leaves, left, right)
		}
		if got, want := impl.TreePeaks(leaves), []int{impl.DigestPair(left[0], right[0])}; !slices.Equal(got, want) {
			t.Errorf("TreePeaks of %v is %v, not %v", leaves, got, want)
		}
	}
}

func TestPromise23GrowthOfEqualNumbers(t *testing.T) {
	for _, leaves := range treeLists() {
		n, d, peaks := len(leaves), impl.TreeDigest(leaves), impl.TreePeaks(leaves)
		for other := 0; other < impl.Digests; other++ {
			same := other == d
			if impl.TreeGrowthCheck(n, d, n, other, peaks) != same || impl.TreeGrowthCheck(n, other, n, d, peaks) != same {
				t.Fatalf("the peaks of %v are judged wrongly with the digests %d and %d", leaves, d, other)
			}
			if !same && impl.TreeGrowthCheck(n, other, n, other, peaks) {
				t.Fatalf("the peaks of %v are accepted with the digest %d twice", leaves, other)
			}
		}
	}
}

func TestPromise24GrowthInTwoSteps(t *testing.T) {
	for _, leaves := range treeLists() {
		n := len(leaves)
		for m := range n + 1 {
			for k := m; k <= n; k++ {
				between := impl.TreeDigest(leaves[:k])
				if !impl.TreeGrowthCheck(m, impl.TreeDigest(leaves[:m]), k, between, impl.TreeGrowth(leaves[:k], m)) {
					t.Errorf("growth of %v from %d to %d is rejected", leaves, m, k)
				}
				if !impl.TreeGrowthCheck(k, between, n, impl.TreeDigest(leaves), impl.TreeGrowth(leaves, k)) {
					t.Errorf("growth of %v from %d to %d is rejected", leaves, k, n)
				}
			}
		}
	}
}
