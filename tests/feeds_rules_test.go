package tests

import (
	"math"
	"math/rand"
	"slices"
	"strings"
	"testing"

	"loop.example/feedswarm/impl"
)

// tooLong are texts of more than MaxText bytes, the second one of fewer runes.
var tooLong = []string{"toolongxx", "ÄÄÄÄÄ", strings.Repeat("\x00", impl.MaxText+1), strings.Repeat("a", 1000)}

// plainFeedValid judges a feed by the document's rule.
func plainFeedValid(f impl.Feed) bool {
	if f.Public < 1 || f.Public > 996 || f.Head != (impl.Head{}) && !impl.HeadCheck(f.Public, f.Head) {
		return false
	}
	n := f.Head.Length
	if len(f.Blocks) != n || len(f.Have) != n {
		return false
	}
	for i, text := range f.Blocks {
		if len(text) > 8 || !f.Have[i] && len(text) > 0 {
			return false
		}
	}
	whole := plainCount(f.Have) == n
	return n == 0 || !whole || plainDigest(plainLeaves(leavesOf(f.Blocks)), n) == f.Head.Digest
}

// plainFeedHead handles a head by the document's rule.
func plainFeedHead(f impl.Feed, h impl.Head, growth []int) (impl.Feed, int) {
	if !plainFeedValid(f) {
		return impl.Feed{}, 5
	}
	if !impl.HeadCheck(f.Public, h) || h.Length == 0 {
		return f, 4
	}
	if h == f.Head {
		return f, 1
	}
	if h.Length < f.Head.Length {
		return f, 2
	}
	if h.Length == f.Head.Length {
		return f, 3
	}
	if f.Head.Length != 0 && !impl.TreeGrowthCheck(f.Head.Length, f.Head.Digest, h.Length, h.Digest, growth) {
		return f, 4
	}
	more := h.Length - f.Head.Length
	return impl.Feed{Public: f.Public, Head: h, Blocks: slices.Concat(f.Blocks, make([]string, more)), Have: slices.Concat(f.Have, make([]bool, more))}, 0
}

// plainFeedPut stores a block by the document's rule.
func plainFeedPut(f impl.Feed, i int, text string, proof []int) (impl.Feed, bool) {
	if !plainFeedValid(f) || len(text) > 8 {
		return impl.Feed{}, false
	}
	if i < 0 || i >= f.Head.Length || f.Have[i] || !impl.TreeCheck(f.Head.Digest, f.Head.Length, i, impl.DigestText(text), proof) {
		return f, false
	}
	if next := withText(f, i, text); plainFeedValid(next) {
		return next, true
	}
	return f, false
}

// plainFeedProve proves a block by the document's rule.
func plainFeedProve(f impl.Feed, i int) ([]int, bool) {
	if !plainFeedValid(f) || i < 0 || i >= f.Head.Length || plainCount(f.Have) < f.Head.Length {
		return nil, false
	}
	return impl.TreeProof(leavesOf(f.Blocks), i), true
}

// The values of this test are computed from the document's rules outside of the program.
func TestFeedValues(t *testing.T) {
	one, two := impl.Head{Length: 1, Digest: 211, Sign: 569}, impl.Head{Length: 2, Digest: 913, Sign: 83}
	four, fork := impl.Head{Length: 4, Digest: 635, Sign: 168}, impl.Head{Length: 2, Digest: 334, Sign: 552}
	first := impl.Feed{Public: 35, Head: one, Blocks: []string{""}, Have: []bool{false}}
	checkHead(t, impl.Feed{Public: 35}, one, nil, first, impl.HeadDone)
	put := impl.Feed{Public: 35, Head: one, Blocks: []string{"a"}, Have: []bool{true}}
	checkPut(t, first, 0, "a", nil, put, true)
	checkPut(t, first, 0, "b", nil, first, false)
	second := impl.Feed{Public: 35, Head: two, Blocks: []string{"a", ""}, Have: []bool{true, false}}
	checkHead(t, put, two, []int{943, 944}, second, impl.HeadDone)
	checkHead(t, put, two, []int{944, 943}, put, impl.HeadWrong)
	checkHead(t, put, two, nil, put, impl.HeadWrong)
	checkHead(t, second, two, nil, second, impl.HeadSame)
	checkHead(t, second, one, nil, second, impl.HeadOld)
	checkHead(t, second, fork, nil, second, impl.HeadFork)
	last := "\xff\xff\xff\xff\xff\xff\xff\xff"
	third := impl.Feed{Public: 35, Head: four, Blocks: []string{"a", "", "", ""}, Have: []bool{true, false, false, false}}
	checkHead(t, second, four, []int{691, 936}, third, impl.HeadDone)
	third = mustPut(t, third, 3, last, []int{11, 691})
	third = mustPut(t, third, 2, "", []int{93, 691})
	third = mustPut(t, third, 1, "b", []int{943, 936})
	whole := impl.Feed{Public: 35, Head: four, Blocks: []string{"a", "b", "", last}, Have: []bool{true, true, true, true}}
	if !equalFeeds(third, whole) || !impl.FeedValid(third) {
		t.Errorf("the feed is %#v, not %#v", third, whole)
	}
	for i, want := range [][]int{{944, 936}, {943, 936}, {93, 691}, {11, 691}} {
		if got, ok := impl.FeedProve(whole, i); !ok || !slices.Equal(got, want) {
			t.Errorf("FeedProve of %d is %#v, %#v, not %#v", i, got, ok, want)
		}
	}
}

func TestFeedConstants(t *testing.T) {
	codes := []int{impl.HeadDone, impl.HeadSame, impl.HeadOld, impl.HeadFork, impl.HeadWrong, impl.HeadInvalid}
	if !slices.Equal(codes, []int{0, 1, 2, 3, 4, 5}) {
		t.Errorf("the codes are %#v", codes)
	}
}

// brokenNumbers returns copies of a valid feed that are invalid because of its public key or its head.
func brokenNumbers(read readFeed) []impl.Feed {
	feeds := []impl.Feed{}
	for _, public := range []int{0, -1, impl.Keys, -read.feed.Public, read.feed.Public + impl.Keys, read.feed.Public - impl.Keys, math.MinInt, math.MaxInt} {
		f := cloneFeed(read.feed)
		f.Public = public
		feeds = append(feeds, f)
	}
	for _, h := range unsignedHeads(read.secret, read.feed.Head.Length, read.feed.Head.Digest) {
		// The zero head makes a feed without blocks valid.
		if h == (impl.Head{}) && len(read.texts) == 0 {
			continue
		}
		f := cloneFeed(read.feed)
		f.Head = h
		feeds = append(feeds, f)
	}
	return feeds
}

// brokenNumbersOfMembers returns copies of a valid feed in which Blocks, Have or both have another number of members.
func brokenNumbersOfMembers(read readFeed) []impl.Feed {
	feeds, n := []impl.Feed{}, len(read.texts)
	for _, size := range []int{0, 1, n - 1, n + 1, n + 2, impl.MaxBlocks + 1, 1000} {
		if size < 0 || size == n {
			continue
		}
		blocks, have, both := cloneFeed(read.feed), cloneFeed(read.feed), cloneFeed(read.feed)
		blocks.Blocks = slices.Concat(blocks.Blocks, make([]string, 1000))[:size]
		have.Have = slices.Concat(have.Have, make([]bool, 1000))[:size]
		both.Blocks, both.Have = blocks.Blocks, have.Have
		feeds = append(feeds, blocks, have, both)
	}
	return feeds
}

// brokenTexts returns copies of a valid feed with one text that is too long, that stands at a missing block, or that is not signed.
func brokenTexts(read readFeed) []impl.Feed {
	feeds := []impl.Feed{}
	whole := plainCount(read.feed.Have) == len(read.texts)
	for i, have := range read.feed.Have {
		for _, text := range tooLong {
			feeds = append(feeds, withText(read.feed, i, text))
		}
		f := withText(read.feed, i, "x")
		if f.Have[i] = have; !have || whole && impl.DigestText("x") != impl.DigestText(read.texts[i]) {
			feeds = append(feeds, f)
		}
	}
	return feeds
}

// brokenFeeds returns invalid feeds, each for one reason.
func brokenFeeds() []impl.Feed {
	feeds := []impl.Feed{{}, {Public: 35, Head: impl.Head{Length: -1}}, {Public: 35, Head: impl.Head{Length: math.MinInt}}}
	for _, public := range notKeys() {
		feeds = append(feeds, impl.Feed{Public: public})
	}
	for _, read := range readFeeds() {
		feeds = append(feeds, brokenNumbers(read)...)
		feeds = append(feeds, brokenNumbersOfMembers(read)...)
		feeds = append(feeds, brokenTexts(read)...)
	}
	// A head of more than MaxBlocks blocks is right but for its length.
	texts := feedTexts(impl.MaxBlocks + 1)
	return append(feeds, wholeFeed(7, texts), emptyFeed(7, texts))
}

func TestInvalidFeedsAreRefused(t *testing.T) {
	for _, f := range brokenFeeds() {
		if plainFeedValid(f) || impl.FeedValid(f) {
			t.Fatalf("%#v is valid", f)
		}
		signed := signedBy(7, 3, 5)
		for _, h := range []impl.Head{{}, f.Head, signed, signedBy(7, 0, 0), signedBy(7, impl.MaxBlocks, 0)} {
			checkHead(t, f, h, nil, impl.Feed{}, impl.HeadInvalid)
			checkHead(t, f, h, []int{-1}, impl.Feed{}, impl.HeadInvalid)
		}
		for _, i := range []int{0, 1, len(f.Blocks) - 1, len(f.Blocks), -1, math.MinInt, math.MaxInt} {
			for _, text := range []string{"", "a", "toolongxx"} {
				checkPut(t, f, i, text, nil, impl.Feed{}, false)
				checkPut(t, f, i, text, []int{0}, impl.Feed{}, false)
			}
			if proof, ok := impl.FeedProve(f, i); ok || len(proof) > 0 {
				t.Fatalf("FeedProve of %#v and %d is %#v, %#v", f, i, proof, ok)
			}
		}
	}
}

// All digests are tried: the zero head and heads that are signed are valid.
func TestFeedValidOfHeadsWithoutBlocks(t *testing.T) {
	for _, public := range []int{1, 35, impl.Keys - 1} {
		for digest := range impl.Digests {
			right := plainSign(public, 0, digest)
			for _, sign := range []int{0, right, right + 1, right - 1, right + impl.Keys, right - impl.Keys} {
				f := impl.Feed{Public: public, Head: impl.Head{Digest: digest, Sign: sign}}
				if impl.FeedValid(f) != (sign == right || digest == 0 && sign == 0) {
					t.Fatalf("%#v is judged wrongly", f)
				}
			}
		}
	}
}

// A wrong text is noticed only by the digest of all blocks, so it is valid while another block is not there.
func TestFeedValidOfWrongTextsBesideMissingBlocks(t *testing.T) {
	for n := 2; n <= impl.MaxBlocks; n++ {
		texts := feedTexts(n)
		for i := range texts {
			for missing := range texts {
				f := withoutBlock(withText(wholeFeed(7, texts), i, "other"), missing)
				if !impl.FeedValid(f) {
					t.Fatalf("%#v is invalid", f)
				}
			}
			if f := withText(wholeFeed(7, texts), i, "other"); impl.FeedValid(f) {
				t.Fatalf("%#v is valid", f)
			}
		}
	}
}

// A head without blocks is wrong, also if it is signed, and if it is the last head.
func TestFeedHeadWithoutBlocksIsWrong(t *testing.T) {
	for _, read := range readFeeds() {
		for _, digest := range []int{0, 1, read.feed.Head.Digest, impl.Digests - 1} {
			h := signedBy(read.secret, 0, digest)
			checkHead(t, read.feed, h, nil, cloneFeed(read.feed), impl.HeadWrong)
			checkHead(t, read.feed, h, []int{0}, cloneFeed(read.feed), impl.HeadWrong)
			f := impl.Feed{Public: read.feed.Public, Head: h}
			checkHead(t, f, h, nil, f, impl.HeadWrong)
			checkHead(t, newFeed(read.secret), impl.Head{}, nil, newFeed(read.secret), impl.HeadWrong)
		}
	}
}

// A last head of length 0 need not be that of no blocks; the next one needs no proof.
func TestFeedHeadAfterAHeadWithoutBlocks(t *testing.T) {
	for length := 1; length <= impl.MaxBlocks; length++ {
		for _, digest := range []int{0, 1, 500, impl.Digests - 1} {
			f := impl.Feed{Public: 35, Head: signedBy(7, 0, digest)}
			h := signedBy(7, length, digest)
			want := impl.Feed{Public: 35, Head: h, Blocks: make([]string, length), Have: make([]bool, length)}
			for _, growth := range [][]int{nil, {}, {digest}, {-1}, impl.TreePeaks(treeLeaves(length))} {
				checkHead(t, f, h, growth, want, impl.HeadDone)
			}
		}
	}
}

// A text that is too long is an invalid argument, whatever else is wrong.
func TestFeedPutOfTooLongTexts(t *testing.T) {
	for _, read := range readFeeds() {
		leaves := leavesOf(read.texts)
		for _, text := range tooLong {
			for i := -1; i <= len(leaves); i++ {
				checkPut(t, read.feed, i, text, impl.TreeProof(leaves, i), impl.Feed{}, false)
				checkPut(t, read.feed, i, text, nil, impl.Feed{}, false)
			}
		}
	}
}

func TestFeedIndexesThatDoNotExist(t *testing.T) {
	for _, read := range readFeeds() {
		leaves, n := leavesOf(read.texts), len(read.texts)
		indexes := append([]int{n, n + 1, -n, n - 64, n + 1<<32, math.MinInt + n, -1 - n}, badNumbers...)
		for _, i := range indexes {
			if i >= 0 && i < n {
				continue
			}
			for j := range max(n, 1) {
				text := slices.Concat(read.texts, []string{""})[j]
				checkPut(t, read.feed, i, text, impl.TreeProof(leaves, j), cloneFeed(read.feed), false)
			}
			if proof, ok := impl.FeedProve(read.feed, i); ok || len(proof) > 0 {
				t.Fatalf("FeedProve of %#v and %d is %#v, %#v", read.feed, i, proof, ok)
			}
		}
	}
}

func TestFeedProveNeedsAllBlocks(t *testing.T) {
	for _, read := range readFeeds() {
		for i := range read.texts {
			want, wantOk := plainFeedProve(read.feed, i)
			if got, ok := impl.FeedProve(read.feed, i); ok != wantOk || !slices.Equal(got, want) {
				t.Fatalf("FeedProve of %#v and %d is %#v, %#v, not %#v, %#v", read.feed, i, got, ok, want, wantOk)
			}
		}
	}
}

// The last missing block is right, but another one is not: the feed would be invalid.
func TestFeedPutThatWouldMakeTheFeedInvalid(t *testing.T) {
	for n := 2; n <= impl.MaxBlocks; n++ {
		texts := feedTexts(n)
		leaves := leavesOf(texts)
		for i := range texts {
			for wrong := range texts {
				if i == wrong {
					continue
				}
				f := withoutBlock(withText(wholeFeed(7, texts), wrong, "other"), i)
				proof := impl.TreeProof(leaves, i)
				if !impl.TreeCheck(f.Head.Digest, n, i, leaves[i], proof) {
					t.Fatalf("TreeCheck rejects %#v for %d of %#v", proof, i, texts)
				}
				checkPut(t, f, i, texts[i], proof, cloneFeed(f), false)
			}
		}
	}
}

// A forged block is accepted while others are missing; then the last one is refused, although it is right.
func TestFeedPutAfterAForgedBlock(t *testing.T) {
	for n := 2; n <= impl.MaxBlocks; n++ {
		texts := feedTexts(n)
		leaves := leavesOf(texts)
		f := emptyFeed(7, texts)
		f = mustPut(t, f, 0, "other", forgedProof(t, f.Head, leaves, 0, impl.DigestText("other")))
		for i := 1; i < n-1; i++ {
			f = mustPut(t, f, i, texts[i], impl.TreeProof(leaves, i))
		}
		checkPut(t, f, n-1, texts[n-1], impl.TreeProof(leaves, n-1), cloneFeed(f), false)
	}
}

// mixedFeeds returns valid feeds, also with wrong texts beside missing blocks and with heads without blocks, and invalid ones.
func mixedFeeds(random *rand.Rand) []readFeed {
	feeds := readFeeds()
	for _, read := range readFeeds() {
		n := len(read.texts)
		if n > 1 && plainCount(read.feed.Have) < n {
			i := slices.Index(read.feed.Have, false)
			other := withoutBlock(withText(read.feed, (i+1)%n, "wrong"), i)
			feeds = append(feeds, readFeed{read.secret, read.texts, other})
		}
		if n == 0 {
			feeds = append(feeds, readFeed{read.secret, nil, impl.Feed{Public: read.feed.Public, Head: signedBy(read.secret, 0, random.Intn(impl.Digests))}})
		}
		broken := slices.Concat(brokenNumbers(read), brokenNumbersOfMembers(read), brokenTexts(read))
		for range 3 {
			feeds = append(feeds, readFeed{read.secret, read.texts, broken[random.Intn(len(broken))]})
		}
	}
	return feeds
}

// mixedHeads returns heads of all lengths, signed by the writer and by another one, of the texts of a feed and of others.
func mixedHeads(random *rand.Rand, read readFeed) []impl.Head {
	texts := slices.Concat(read.texts, feedTexts(impl.MaxBlocks-len(read.texts)))
	heads := []impl.Head{{}, read.feed.Head, {Length: random.Intn(30) - 5, Digest: random.Intn(1000), Sign: random.Intn(1000)}}
	for n := range texts {
		digest := impl.TreeDigest(leavesOf(texts[:n+1]))
		heads = append(heads, signedBy(read.secret, n+1, digest), signedBy(read.secret, n, random.Intn(impl.Digests)), signedBy(7, n+1, digest))
	}
	return heads
}

func TestFeedHeadFollowsItsRules(t *testing.T) {
	random := rand.New(rand.NewSource(13))
	var seen [6]int
	for _, read := range mixedFeeds(random) {
		texts := slices.Concat(read.texts, feedTexts(impl.MaxBlocks-len(read.texts)))
		for _, h := range mixedHeads(random, read) {
			leaves := leavesOf(texts[:min(max(h.Length, 0), impl.MaxBlocks)])
			for _, growth := range [][]int{nil, impl.TreeGrowth(leaves, len(read.texts)), impl.TreePeaks(leaves), {random.Intn(impl.Digests)}} {
				want, code := plainFeedHead(cloneFeed(read.feed), h, growth)
				checkHead(t, read.feed, h, growth, want, code)
				seen[code]++
			}
		}
	}
	for code, times := range seen {
		if times < 1000 {
			t.Errorf("the code %d is wanted %d times", code, times)
		}
	}
}

func TestFeedPutFollowsItsRules(t *testing.T) {
	random := rand.New(rand.NewSource(14))
	stored, refused := 0, 0
	for _, read := range mixedFeeds(random) {
		leaves, n := leavesOf(read.texts), len(read.texts)
		for i := -1; i <= n; i++ {
			j := min(max(i, 0), max(n-1, 0))
			text := slices.Concat(read.texts, []string{""})[j]
			proof := impl.TreeProof(leaves, j)
			for _, other := range []string{text, "", "wrong", "toolongxx", string([]byte{byte(random.Intn(256))})} {
				for _, p := range [][]int{proof, nil, withFurther(proof, 0), impl.TreePeaks(leaves), {random.Intn(impl.Digests)}} {
					want, ok := plainFeedPut(cloneFeed(read.feed), i, other, p)
					checkPut(t, read.feed, i, other, p, want, ok)
					if ok {
						stored++
					} else {
						refused++
					}
				}
			}
		}
	}
	if stored < 1000 || refused < 1000 {
		t.Errorf("%d blocks are to be stored and %d to be refused", stored, refused)
	}
}

func TestFeedValidAndFeedProveFollowTheirRules(t *testing.T) {
	random := rand.New(rand.NewSource(15))
	for _, read := range mixedFeeds(random) {
		if got, want := impl.FeedValid(read.feed), plainFeedValid(read.feed); got != want {
			t.Fatalf("FeedValid of %#v is %#v", read.feed, got)
		}
		for i := -2; i <= len(read.texts)+2; i++ {
			want, wantOk := plainFeedProve(read.feed, i)
			if got, ok := impl.FeedProve(read.feed, i); ok != wantOk || !slices.Equal(got, want) {
				t.Fatalf("FeedProve of %#v and %d is %#v, %#v, not %#v, %#v", read.feed, i, got, ok, want, wantOk)
			}
		}
	}
}
