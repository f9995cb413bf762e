package tests

import (
	"math"
	"math/rand"
	"slices"
	"testing"

	"loop.example/feedswarm/impl"
)

// span is a complete tree of a division of leaves, told by its first leaf and its number of leaves.
type span struct{ start, size int }

// plainSpans divides leaves by trying all sizes. It has no limit, so that proofs for too many leaves can be made.
func plainSpans(start int, end int) []span {
	spans := []span{}
	for start < end {
		size := 64
		for start%size != 0 || start+size > end {
			size /= 2
		}
		spans = append(spans, span{start, size})
		start += size
	}
	return spans
}

// plainPair returns the digest of a pair by the document's rule, outside of the program.
func plainPair(a int, b int) int {
	return (31*a + 17*b + 5) % 991
}

// plainRoot returns the root of a span from known roots, or from its halves.
func plainRoot(known map[span]int, s span) int {
	if root, ok := known[s]; ok {
		return root
	}
	half := s.size / 2
	return plainPair(plainRoot(known, span{s.start, half}), plainRoot(known, span{s.start + half, half}))
}

// plainDigest returns the digest of n leaves from known roots.
func plainDigest(known map[span]int, n int) int {
	number := n
	for _, s := range plainSpans(0, n) {
		number = plainPair(number, plainRoot(known, s))
	}
	return number
}

// plainLeaves returns the leaves as known roots.
func plainLeaves(leaves []int) map[span]int {
	known := map[span]int{}
	for i, leaf := range leaves {
		known[span{i, 1}] = leaf
	}
	return known
}

// plainProofSpans returns the spans of the members of a proof for index i of n leaves.
func plainProofSpans(n int, i int) []span {
	siblings, others := []span{}, []span{}
	for _, peak := range plainSpans(0, n) {
		if i < peak.start || i >= peak.start+peak.size {
			others = append(others, peak)
			continue
		}
		for size := 1; size < peak.size; size *= 2 {
			own := i - i%size
			if own%(2*size) == 0 {
				siblings = append(siblings, span{own + size, size})
			} else {
				siblings = append(siblings, span{own - size, size})
			}
		}
	}
	return append(siblings, others...)
}

// plainGrowthSpans returns the spans of the members of a proof that n leaves begin with m.
func plainGrowthSpans(n int, m int) []span {
	return append(plainSpans(0, m), plainSpans(m, n)...)
}

// plainRoots returns the roots of spans.
func plainRoots(leaves []int, spans []span) []int {
	roots := []int{}
	for _, s := range spans {
		roots = append(roots, plainRoot(plainLeaves(leaves), s))
	}
	return roots
}

// withKnown returns known roots for the spans of a proof.
func withKnown(known map[span]int, spans []span, proof []int) map[span]int {
	for place, s := range spans {
		known[s] = proof[place]
	}
	return known
}

// badNumbers are numbers out of the range of all indexes and numbers of leaves.
var badNumbers = []int{
	-1, -2, -16, -17, math.MinInt32, math.MinInt + 1, math.MinInt,
	impl.MaxBlocks + 1, impl.MaxBlocks + 2, 31, 32, 33, 64, 991, math.MaxInt32, math.MaxInt - 1, math.MaxInt,
}

// invalidLeaves returns lists with too many members, or with one member that is not a digest at every place.
func invalidLeaves() [][]int {
	lists := [][]int{}
	for _, n := range []int{17, 18, 31, 32, 33, 64, 991, 5000} {
		lists = append(lists, treeLeaves(n), slices.Repeat([]int{0}, n))
	}
	for n := 1; n <= impl.MaxBlocks; n++ {
		for place := range n {
			for _, bad := range notDigests {
				lists = append(lists, withMember(treeLeaves(n), place, bad))
			}
		}
	}
	return lists
}

func TestTreesFollowTheirRules(t *testing.T) {
	for _, leaves := range treeLists() {
		n := len(leaves)
		if got, want := impl.TreePeaks(leaves), plainRoots(leaves, plainSpans(0, n)); !slices.Equal(got, want) {
			t.Errorf("TreePeaks of %v is %v, not %v", leaves, got, want)
		}
		if got, want := impl.TreeDigest(leaves), plainDigest(plainLeaves(leaves), n); got != want {
			t.Errorf("TreeDigest of %v is %d, not %d", leaves, got, want)
		}
		for i := range n {
			if got, want := impl.TreeProof(leaves, i), plainRoots(leaves, plainProofSpans(n, i)); !slices.Equal(got, want) {
				t.Errorf("TreeProof of leaf %d of %v is %v, not %v", i, leaves, got, want)
			}
		}
		for m := range n + 1 {
			if got, want := impl.TreeGrowth(leaves, m), plainRoots(leaves, plainGrowthSpans(n, m)); !slices.Equal(got, want) {
				t.Errorf("TreeGrowth of %d of %v is %v, not %v", m, leaves, got, want)
			}
		}
	}
}

// The members of a proof need not come from any leaves that the checker could know.
func TestTreeCheckOfAnyMembers(t *testing.T) {
	random := rand.New(rand.NewSource(3))
	for n := 1; n <= impl.MaxBlocks; n++ {
		for i := range n {
			for range 50 {
				spans, leaf := plainProofSpans(n, i), random.Intn(impl.Digests)
				proof := []int{}
				for range spans {
					proof = append(proof, random.Intn(impl.Digests))
				}
				want := plainDigest(withKnown(map[span]int{{i, 1}: leaf}, spans, proof), n)
				if !impl.TreeCheck(want, n, i, leaf, proof) || impl.TreeCheck((want+1)%impl.Digests, n, i, leaf, proof) {
					t.Fatalf("the proof %v of leaf %d at %d of %d does not give the digest %d", proof, leaf, i, n, want)
				}
			}
		}
	}
}

func TestTreeGrowthCheckOfAnyMembers(t *testing.T) {
	random := rand.New(rand.NewSource(4))
	for n := 0; n <= impl.MaxBlocks; n++ {
		for m := range n + 1 {
			for range 50 {
				spans, proof := plainGrowthSpans(n, m), []int{}
				for range spans {
					proof = append(proof, random.Intn(impl.Digests))
				}
				known := withKnown(map[span]int{}, spans, proof)
				old, d := plainDigest(known, m), plainDigest(known, n)
				if !impl.TreeGrowthCheck(m, old, n, d, proof) {
					t.Fatalf("the growth %v from %d to %d does not give the digests %d and %d", proof, m, n, old, d)
				}
			}
		}
	}
}

func TestTreesOfInvalidLeaves(t *testing.T) {
	for _, leaves := range invalidLeaves() {
		if got := impl.TreePeaks(leaves); len(got) != 0 {
			t.Errorf("TreePeaks of %v is %v", leaves, got)
		}
		if got := impl.TreeDigest(leaves); got != -1 {
			t.Errorf("TreeDigest of %v is %d", leaves, got)
		}
		for k := range len(leaves) + 1 {
			if got := impl.TreeProof(leaves, k); len(got) != 0 {
				t.Errorf("TreeProof of leaf %d of %v is %v", k, leaves, got)
			}
			if got := impl.TreeGrowth(leaves, k); len(got) != 0 {
				t.Errorf("TreeGrowth of %d of %v is %v", k, leaves, got)
			}
		}
	}
}

func TestTreeProofAndGrowthOutOfRange(t *testing.T) {
	for _, leaves := range treeLists() {
		n := len(leaves)
		for _, i := range append([]int{n, n + 1}, badNumbers...) {
			if got := impl.TreeProof(leaves, i); len(got) != 0 {
				t.Errorf("TreeProof of leaf %d of %v is %v", i, leaves, got)
			}
		}
		for _, m := range append([]int{n + 1, n + 2}, badNumbers...) {
			if got := impl.TreeGrowth(leaves, m); len(got) != 0 {
				t.Errorf("TreeGrowth of %d of %v is %v", m, leaves, got)
			}
		}
	}
}

// Numbers with the same remainder would give the same digests if they were not refused.
func TestChecksRefuseWhatIsNoDigest(t *testing.T) {
	for n := 1; n <= impl.MaxBlocks; n++ {
		leaves := treeLeaves(n)
		d := impl.TreeDigest(leaves)
		for i, leaf := range leaves {
			proof := impl.TreeProof(leaves, i)
			for _, by := range []int{-2 * impl.Digests, -impl.Digests, impl.Digests, 2 * impl.Digests} {
				if impl.TreeCheck(d+by, n, i, leaf, proof) || impl.TreeCheck(d, n, i, leaf+by, proof) {
					t.Errorf("leaf %d of %d: the digest or the leaf may be moved by %d", i, n, by)
				}
				for place, member := range proof {
					if impl.TreeCheck(d, n, i, leaf, withMember(proof, place, member+by)) {
						t.Errorf("leaf %d of %d: member %d may be moved by %d", i, n, place, by)
					}
				}
			}
		}
		for m := range n + 1 {
			proof, old := impl.TreeGrowth(leaves, m), impl.TreeDigest(leaves[:m])
			for _, by := range []int{-2 * impl.Digests, -impl.Digests, impl.Digests, 2 * impl.Digests} {
				if impl.TreeGrowthCheck(m, old+by, n, d, proof) || impl.TreeGrowthCheck(m, old, n, d+by, proof) {
					t.Errorf("growth from %d to %d: a digest may be moved by %d", m, n, by)
				}
				for place, member := range proof {
					if impl.TreeGrowthCheck(m, old, n, d, withMember(proof, place, member+by)) {
						t.Errorf("growth from %d to %d: member %d may be moved by %d", m, n, place, by)
					}
				}
			}
		}
	}
}

// Every digest is tried, so that no number that is not a digest can lead to one by chance unseen.
func TestChecksRefuseFarNumbers(t *testing.T) {
	leaves := treeLeaves(7)
	proof, growth := impl.TreeProof(leaves, 2), impl.TreeGrowth(leaves, 3)
	old := impl.TreeDigest(leaves[:3])
	for _, bad := range notDigests {
		for d := -1; d <= impl.Digests; d++ {
			if impl.TreeCheck(d, 7, 2, bad, proof) {
				t.Errorf("TreeCheck accepts the leaf %d with the digest %d", bad, d)
			}
			for place := range proof {
				if impl.TreeCheck(d, 7, 2, leaves[2], withMember(proof, place, bad)) {
					t.Errorf("TreeCheck accepts the member %d with the digest %d", bad, d)
				}
			}
			for place := range growth {
				if impl.TreeGrowthCheck(3, old, 7, d, withMember(growth, place, bad)) {
					t.Errorf("TreeGrowthCheck accepts the member %d with the digest %d", bad, d)
				}
			}
		}
		if impl.TreeCheck(bad, 7, 2, leaves[2], proof) || impl.TreeGrowthCheck(3, bad, 7, impl.TreeDigest(leaves), growth) || impl.TreeGrowthCheck(3, old, 7, bad, growth) {
			t.Errorf("%d is accepted as the digest of a tree", bad)
		}
	}
}

// The proofs are right but for the number of leaves.
func TestChecksRefuseMoreThanMaxBlocks(t *testing.T) {
	for _, n := range []int{17, 18, 31, 32, 33} {
		leaves := treeLeaves(n)
		d := plainDigest(plainLeaves(leaves), n)
		for i, leaf := range leaves {
			if impl.TreeCheck(d, n, i, leaf, plainRoots(leaves, plainProofSpans(n, i))) {
				t.Errorf("TreeCheck accepts leaf %d of %d", i, n)
			}
		}
		for m := range n + 1 {
			old := plainDigest(plainLeaves(leaves), m)
			if impl.TreeGrowthCheck(m, old, n, d, plainRoots(leaves, plainGrowthSpans(n, m))) {
				t.Errorf("TreeGrowthCheck accepts growth from %d to %d", m, n)
			}
		}
	}
}

func TestTreeCheckOutOfRange(t *testing.T) {
	for n := 0; n <= impl.MaxBlocks; n++ {
		leaves := treeLeaves(n)
		proofs := [][]int{nil, {}, {1}, {1, 2}, impl.TreePeaks(leaves), impl.TreeProof(leaves, 0), impl.TreeProof(leaves, n-1)}
		for _, proof := range proofs {
			for d := -1; d <= impl.Digests; d++ {
				for _, i := range []int{-2, -1, n, n + 1, math.MinInt, math.MaxInt} {
					if impl.TreeCheck(d, n, i, 7, proof) {
						t.Fatalf("TreeCheck accepts index %d of %d with %v", i, n, proof)
					}
				}
			}
			for _, bad := range append([]int{0}, badNumbers...) {
				for _, i := range []int{0, n, bad, bad - 1, math.MinInt, math.MaxInt} {
					if impl.TreeCheck(impl.TreeDigest(leaves), bad, i, 7, proof) {
						t.Errorf("TreeCheck accepts index %d of %d with %v", i, bad, proof)
					}
				}
			}
		}
	}
}

func TestTreeGrowthCheckOutOfRange(t *testing.T) {
	for n := 0; n <= impl.MaxBlocks; n++ {
		leaves := treeLeaves(n)
		d, peaks := impl.TreeDigest(leaves), impl.TreePeaks(leaves)
		for _, proof := range [][]int{nil, {}, peaks} {
			for _, bad := range append([]int{n + 1, n + 2}, badNumbers...) {
				for old := -1; old <= impl.Digests; old++ {
					if impl.TreeGrowthCheck(bad, old, n, d, proof) {
						t.Fatalf("TreeGrowthCheck accepts growth from %d to %d with %v", bad, n, proof)
					}
				}
			}
			for _, bad := range badNumbers {
				for _, m := range []int{n, 0, bad, math.MinInt, math.MaxInt} {
					if impl.TreeGrowthCheck(m, d, bad, d, proof) || impl.TreeGrowthCheck(m, 0, bad, 0, proof) || impl.TreeGrowthCheck(m, bad, bad, bad, proof) {
						t.Errorf("TreeGrowthCheck accepts growth from %d to %d with %v", m, bad, proof)
					}
				}
			}
		}
	}
}

// Proofs of every length and all digests are tried: a division from a negative index has trees, too.
func TestTreeGrowthCheckOfNegativeNumbers(t *testing.T) {
	for _, m := range []int{-1, -2, -3, -8, -16} {
		for n := m; n <= impl.MaxBlocks; n++ {
			for length := range 12 {
				proof := slices.Repeat([]int{2}, length)
				for d := -16; d <= impl.Digests; d++ {
					if impl.TreeGrowthCheck(m, m, n, d, proof) || impl.TreeGrowthCheck(m, 0, n, d, proof) {
						t.Fatalf("TreeGrowthCheck accepts growth from %d to %d with the digest %d and %v", m, n, d, proof)
					}
				}
			}
		}
	}
}

func TestTreeGrowthCheckOfNoLeaves(t *testing.T) {
	for _, proof := range [][]int{nil, {}} {
		if !impl.TreeGrowthCheck(0, 0, 0, 0, proof) {
			t.Error("growth from no leaves to none is rejected")
		}
		if impl.TreeGrowthCheck(0, 1, 0, 0, proof) || impl.TreeGrowthCheck(0, 0, 0, 1, proof) || impl.TreeGrowthCheck(0, -1, 0, -1, proof) {
			t.Error("no leaves have another digest than 0")
		}
	}
	if impl.TreeGrowthCheck(0, 0, 0, 0, []int{0}) {
		t.Error("growth from no leaves to none is accepted with a member")
	}
}

func TestVeryLongProofsAreRefused(t *testing.T) {
	long := slices.Repeat([]int{1}, 100000)
	for n := 0; n <= impl.MaxBlocks; n++ {
		if impl.TreeCheck(1, n, 0, 1, long) || impl.TreeGrowthCheck(n, 1, n, 1, long) || impl.TreeGrowthCheck(0, 0, n, 1, long) {
			t.Errorf("a proof of %d members is accepted for %d leaves", len(long), n)
		}
	}
}

func TestTreesOfNilAndEmptyAreEqual(t *testing.T) {
	for _, leaves := range [][]int{nil, {}} {
		if got := impl.TreePeaks(leaves); len(got) != 0 {
			t.Errorf("TreePeaks of no leaves is %v", got)
		}
		if got := impl.TreeDigest(leaves); got != 0 {
			t.Errorf("TreeDigest of no leaves is %d", got)
		}
		if got := impl.TreeProof(leaves, 0); len(got) != 0 {
			t.Errorf("TreeProof of no leaves is %v", got)
		}
		if got := impl.TreeGrowth(leaves, 0); len(got) != 0 {
			t.Errorf("TreeGrowth of no leaves is %v", got)
		}
		if impl.TreeCheck(0, 0, 0, 0, leaves) {
			t.Error("TreeCheck accepts no leaves")
		}
	}
}

// roomy returns a list within larger memory, and the whole of this memory.
func roomy(list []int) ([]int, []int) {
	whole := slices.Concat([]int{-7, -7}, list, slices.Repeat([]int{-7}, 20))
	return whole[2 : 2+len(list)], whole
}

// treeResults returns the slices that all functions return for leaves.
func treeResults(leaves []int) [][]int {
	results := [][]int{impl.TreePeaks(leaves)}
	for k := -1; k <= len(leaves)+1; k++ {
		results = append(results, impl.TreeProof(leaves, k), impl.TreeGrowth(leaves, k))
	}
	return results
}

func TestTreesKeepTheirArguments(t *testing.T) {
	for _, list := range append(treeLists(), treeLeaves(17), []int{-1}, []int{impl.Digests, 0}) {
		leaves, whole := roomy(list)
		before := slices.Clone(whole)
		d := impl.TreeDigest(leaves)
		treeResults(leaves)
		if !slices.Equal(whole, before) {
			t.Fatalf("the leaves %v are changed to %v", before, whole)
		}
		for k := range len(list) {
			for _, made := range [][]int{impl.TreeProof(leaves, k), impl.TreeGrowth(leaves, k), slices.Repeat([]int{1}, k)} {
				proof, around := roomy(made)
				kept := slices.Clone(around)
				impl.TreeCheck(d, len(list), k, list[k], proof)
				impl.TreeGrowthCheck(k, 0, len(list), d, proof)
				impl.TreeGrowthCheck(k, impl.TreeDigest(leaves[:k]), len(list), d, proof)
				if !slices.Equal(around, kept) {
					t.Fatalf("the proof %v is changed to %v", kept, around)
				}
			}
		}
	}
}

// Whatever is written into a result, up to its capacity, must be seen in nothing else.
func TestTreeResultsShareNoMemory(t *testing.T) {
	for _, list := range append(treeLists(), treeLeaves(17)) {
		leaves, whole := roomy(list)
		before := slices.Clone(whole)
		first, second, wanted := treeResults(leaves), treeResults(leaves), [][]int{}
		for _, result := range first {
			// A copy of the test's own, which no write into a result can reach.
			wanted = append(wanted, slices.Clone(result))
		}
		for which, result := range first {
			room := result[:cap(result)]
			for place := range room {
				room[place] = -9
			}
			for other := range first {
				if other > which && !slices.Equal(first[other], wanted[other]) {
					t.Fatalf("results %d and %d of %v share memory", which, other, list)
				}
			}
		}
		if !slices.Equal(whole, before) {
			t.Fatalf("a result of %v shares memory with the leaves", list)
		}
		for which := range second {
			if !slices.Equal(second[which], wanted[which]) {
				t.Fatalf("result %d of %v shares memory with an earlier one", which, list)
			}
		}
		for which, result := range treeResults(leaves) {
			if !slices.Equal(result, wanted[which]) {
				t.Fatalf("result %d of %v is another one in a later call", which, list)
			}
		}
	}
}
