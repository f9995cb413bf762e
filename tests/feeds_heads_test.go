package tests

import (
	"slices"
	"testing"

	"loop.example/feedswarm/impl"
)

func TestPromise41NewFeed(t *testing.T) {
	for public := 1; public < impl.Keys; public++ {
		f, ok := impl.FeedNew(public)
		if !ok || !equalFeeds(f, impl.Feed{Public: public}) {
			t.Fatalf("FeedNew of %d is %#v, %#v", public, f, ok)
		}
		if !impl.FeedValid(f) {
			t.Fatalf("the new feed %#v is invalid", f)
		}
	}
}

func TestPromise41NoPublicKey(t *testing.T) {
	for _, public := range notKeys() {
		if f, ok := impl.FeedNew(public); ok || !equalFeeds(f, impl.Feed{}) {
			t.Fatalf("FeedNew of %d is %#v, %#v", public, f, ok)
		}
	}
}

func TestPromise42HeadIsLongerAndNewBlocksAreMissing(t *testing.T) {
	for _, c := range grownFeeds() {
		before := cloneFeed(c.feed)
		f, code := impl.FeedHead(c.feed, c.head, c.growth)
		if code != impl.HeadDone || f.Public != before.Public || f.Head != c.head {
			t.Fatalf("FeedHead of %#v, %#v and %#v is %#v, %d", before, c.head, c.growth, f, code)
		}
		if !impl.HeadCheck(f.Public, f.Head) || f.Head.Length <= before.Head.Length || !impl.FeedValid(f) {
			t.Fatalf("%#v becomes %#v", before, f)
		}
		m := before.Head.Length
		if len(f.Blocks) != c.head.Length || len(f.Have) != c.head.Length {
			t.Fatalf("%#v becomes %#v", before, f)
		}
		if !slices.Equal(f.Blocks[:m], before.Blocks) || !slices.Equal(f.Have[:m], before.Have) {
			t.Fatalf("the blocks of %#v are not kept in %#v", before, f)
		}
		for i := m; i < c.head.Length; i++ {
			if f.Blocks[i] != "" || f.Have[i] {
				t.Fatalf("%#v becomes %#v, which has the new block %d", before, f, i)
			}
		}
	}
}

func TestPromise43SameHeadAndPreviousOne(t *testing.T) {
	for _, c := range grownFeeds() {
		f, code := impl.FeedHead(c.feed, c.head, c.growth)
		if code != impl.HeadDone {
			t.Fatalf("FeedHead of %#v, %#v and %#v is %#v, %d", c.feed, c.head, c.growth, f, code)
		}
		want := cloneFeed(f)
		for _, growth := range [][]int{nil, c.growth, {-1}} {
			checkHead(t, f, c.head, growth, want, impl.HeadSame)
			// A head without blocks is refused before it could be an old one.
			if c.feed.Head.Length > 0 {
				checkHead(t, f, c.feed.Head, growth, want, impl.HeadOld)
			}
		}
	}
}

func TestPromise44KnownHead(t *testing.T) {
	for _, read := range readFeeds() {
		if read.feed.Head.Length > 0 {
			for _, growth := range [][]int{nil, {}, {0}, {-1}, impl.TreePeaks(leavesOf(read.texts))} {
				checkHead(t, read.feed, read.feed.Head, growth, cloneFeed(read.feed), impl.HeadSame)
			}
		}
	}
}

func TestPromise44ShorterHead(t *testing.T) {
	for _, read := range readFeeds() {
		leaves := leavesOf(read.texts)
		for m := 1; m < len(leaves); m++ {
			own := impl.TreeDigest(leaves[:m])
			// The head need not be one of the writer's earlier ones.
			for _, digest := range []int{own, (own + 1) % impl.Digests, 0, read.feed.Head.Digest} {
				for _, growth := range [][]int{nil, impl.TreeGrowth(leaves, m), impl.TreePeaks(leaves[:m])} {
					checkHead(t, read.feed, signedBy(read.secret, m, digest), growth, cloneFeed(read.feed), impl.HeadOld)
				}
			}
		}
	}
}

// All other digests are tried as those of a head of the same length.
func TestPromise44OtherHeadOfTheSameLength(t *testing.T) {
	for _, read := range readFeeds() {
		n, last := read.feed.Head.Length, read.feed.Head.Digest
		if n == 0 {
			continue
		}
		peaks := impl.TreePeaks(leavesOf(read.texts))
		for digest := range impl.Digests {
			if digest != last {
				checkHead(t, read.feed, signedBy(read.secret, n, digest), peaks, read.feed, impl.HeadFork)
			}
		}
		checkHead(t, read.feed, signedBy(read.secret, n, (last+1)%impl.Digests), nil, read.feed, impl.HeadFork)
	}
}

// A head of the same length is a fork, also if a proof of growth with equal numbers is accepted for one of both digests.
func TestPromise44ForkWithProofs(t *testing.T) {
	for n := 1; n <= impl.MaxBlocks; n++ {
		texts := feedTexts(n)
		for i := range texts {
			other := slices.Clone(texts)
			other[i] = "other"
			h := wholeFeed(7, other).Head
			for _, growth := range [][]int{nil, impl.TreePeaks(leavesOf(texts)), impl.TreePeaks(leavesOf(other)), impl.TreeProof(leavesOf(other), i)} {
				checkHead(t, wholeFeed(7, texts), h, growth, wholeFeed(7, texts), impl.HeadFork)
				checkHead(t, emptyFeed(7, texts), h, growth, emptyFeed(7, texts), impl.HeadFork)
			}
		}
	}
}

// A longer head is accepted or wrong, and only an accepted one changes the feed.
func TestPromise44LongerHead(t *testing.T) {
	for _, c := range grownFeeds() {
		if c.feed.Head.Length == 0 {
			continue
		}
		for _, digest := range []int{c.head.Digest, (c.head.Digest + 1) % impl.Digests, c.feed.Head.Digest} {
			h := signedBy(c.secret, c.head.Length, digest)
			want, wantCode := cloneFeed(c.feed), impl.HeadWrong
			if digest == c.head.Digest {
				want, wantCode = feedOf(c.secret, c.texts, slices.Concat(c.feed.Have, make([]bool, h.Length-c.feed.Head.Length))), impl.HeadDone
			}
			checkHead(t, c.feed, h, c.growth, want, wantCode)
		}
	}
}

// badGrowths returns proofs that differ from the right one: changed, shortened, lengthened, empty and others.
func badGrowths(c grownFeed) [][]int {
	list := [][]int{nil, {}, withFurther(c.growth, 0), withFurther(c.growth, c.head.Digest), c.growth[:len(c.growth)-1], c.growth[1:]}
	for place, member := range c.growth {
		list = append(list, withMember(c.growth, place, (member+1)%impl.Digests), withMember(c.growth, place, member+impl.Digests))
		list = append(list, withMember(c.growth, place, member-impl.Digests), withMember(c.growth, place, -1))
	}
	leaves := leavesOf(c.texts)
	for m := range len(leaves) + 1 {
		list = append(list, impl.TreeGrowth(leaves, m), impl.TreePeaks(leaves[:m]))
	}
	return append(list, slices.Repeat([]int{0}, len(c.growth)), slices.Repeat([]int{1}, 1000))
}

func TestPromise45GrowthDecides(t *testing.T) {
	accepted, refused := 0, 0
	for _, c := range grownFeeds() {
		last := c.feed.Head
		if last.Length == 0 {
			continue
		}
		for _, growth := range append(badGrowths(c), c.growth) {
			right := impl.TreeGrowthCheck(last.Length, last.Digest, c.head.Length, c.head.Digest, growth)
			f, code := impl.FeedHead(c.feed, c.head, growth)
			if right {
				accepted++
			} else {
				refused++
			}
			if right != (code == impl.HeadDone) || right != (f.Head == c.head) {
				t.Fatalf("FeedHead of %#v, %#v and %#v is %#v, %d", c.feed, c.head, growth, f, code)
			}
			if !right && (code != impl.HeadWrong || !equalFeeds(f, c.feed)) {
				t.Fatalf("FeedHead of %#v, %#v and %#v is %#v, %d", c.feed, c.head, growth, f, code)
			}
		}
	}
	if accepted == 0 || refused < 10*accepted {
		t.Errorf("%d proofs are right and %d are not", accepted, refused)
	}
}

// The proof alone counts: one that fits is accepted, also if the heads are of different texts.
func TestPromise45ForgedGrowthIsAccepted(t *testing.T) {
	for m := 1; m < impl.MaxBlocks; m++ {
		texts := feedTexts(m)
		for n := m + 1; n <= impl.MaxBlocks; n++ {
			h := wholeFeed(7, slices.Repeat([]string{"other"}, n)).Head
			growth := forgedGrowth(t, leavesOf(texts), h)
			want := impl.Feed{Public: 35, Head: h, Blocks: slices.Concat(texts, make([]string, n-m)), Have: bitsOfNumber(1<<m-1, n)}
			checkHead(t, wholeFeed(7, texts), h, growth, want, impl.HeadDone)
		}
	}
}

// Heads of all lengths and digests are tried: whatever stands in the place of a proof has no effect.
func TestPromise56FirstHeadNeedsNoProof(t *testing.T) {
	for length := 1; length <= impl.MaxBlocks; length++ {
		blocks, have := make([]string, length), make([]bool, length)
		for digest := range impl.Digests {
			for _, secret := range []int{7, 399, 598} {
				f, _ := impl.FeedNew(impl.HeadPublic(secret))
				h := signedBy(secret, length, digest)
				want := impl.Feed{Public: f.Public, Head: h, Blocks: blocks, Have: have}
				for _, growth := range [][]int{nil, {}, {digest}, {-1, impl.Digests}} {
					checkHead(t, f, h, growth, want, impl.HeadDone)
				}
			}
		}
	}
}

// unsignedHeads returns heads that HeadCheck rejects, which are right but for one number, or signed by another writer.
func unsignedHeads(secret int, length int, digest int) []impl.Head {
	h := signedBy(secret, length, digest)
	heads := []impl.Head{{}, {Length: length}, {Length: length, Digest: digest}, {Digest: digest}}
	for _, other := range []int{1, 2, 6, 8, impl.Keys - 1, impl.Keys - secret} {
		if other != secret {
			heads = append(heads, signedBy(other, length, digest))
		}
	}
	for _, by := range []int{1, -1, impl.Keys, -impl.Keys, impl.Digests, -impl.Digests} {
		heads = append(heads, impl.Head{Length: length, Digest: digest, Sign: h.Sign + by})
		heads = append(heads, impl.Head{Length: length, Digest: digest + by, Sign: h.Sign}, impl.Head{Length: length + by, Digest: digest, Sign: h.Sign})
	}
	for _, number := range badNumbers {
		heads = append(heads, impl.Head{Length: number, Digest: digest, Sign: h.Sign}, impl.Head{Length: number, Digest: number, Sign: number})
	}
	return heads
}

func TestPromise57HeadThatIsNotSigned(t *testing.T) {
	for _, read := range readFeeds() {
		leaves := leavesOf(read.texts)
		for _, length := range []int{0, 1, read.feed.Head.Length - 1, read.feed.Head.Length, read.feed.Head.Length + 1, impl.MaxBlocks} {
			if length < 0 || length > impl.MaxBlocks {
				continue
			}
			for _, h := range unsignedHeads(read.secret, length, read.feed.Head.Digest) {
				if impl.HeadCheck(read.feed.Public, h) {
					t.Fatalf("%#v is signed by the owner of %d", h, read.feed.Public)
				}
				checkHead(t, read.feed, h, nil, read.feed, impl.HeadWrong)
				checkHead(t, read.feed, h, impl.TreePeaks(leaves), read.feed, impl.HeadWrong)
			}
		}
	}
}

// The proof of growth is right, so that only the signature is a reason to refuse the head.
func TestPromise57ProvedHeadThatIsNotSigned(t *testing.T) {
	for _, c := range grownFeeds() {
		for _, by := range []int{1, impl.Keys - 2} {
			h := c.head
			h.Sign = 1 + (h.Sign-1+by)%(impl.Keys-1)
			checkHead(t, c.feed, h, c.growth, c.feed, impl.HeadWrong)
			other := 1 + (c.secret-1+by)%(impl.Keys-1)
			checkHead(t, c.feed, signedBy(other, c.head.Length, c.head.Digest), c.growth, c.feed, impl.HeadWrong)
		}
	}
}
