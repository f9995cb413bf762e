package tests

import (
	"math/rand"
	"slices"
	"strings"
	"testing"

	"loop.example/feedswarm/impl"
)

// feedTexts returns n texts, neighbours of which differ. 9 of them have all lengths from 0 to MaxText.
func feedTexts(n int) []string {
	texts := []string{}
	for i := range n {
		texts = append(texts, strings.Repeat(string([]byte{byte('a' + i)}), (5*i+1)%(impl.MaxText+1)))
	}
	return texts
}

// feedTextLists returns texts of every valid number: mixed ones, empty ones only, longest ones only, and random bytes.
func feedTextLists() [][]string {
	random := rand.New(rand.NewSource(11))
	lists := [][]string{}
	for n := range impl.MaxBlocks + 1 {
		lists = append(lists, feedTexts(n), slices.Repeat([]string{""}, n), slices.Repeat([]string{strings.Repeat("\xff", impl.MaxText)}, n))
		texts := []string{}
		for range n {
			text := make([]byte, random.Intn(impl.MaxText+1))
			random.Read(text)
			texts = append(texts, string(text))
		}
		lists = append(lists, texts)
	}
	return lists
}

// leavesOf returns the digests of texts.
func leavesOf(texts []string) []int {
	leaves := []int{}
	for _, text := range texts {
		leaves = append(leaves, impl.DigestText(text))
	}
	return leaves
}

// signedBy returns the head of any length and digest that a writer signs, by the document's rule, outside of the program.
func signedBy(secret int, length int, digest int) impl.Head {
	return impl.Head{Length: length, Digest: digest, Sign: secret * plainMessage(length, digest) % 997}
}

// feedOf returns the feed of a reader that has the head of all texts, and those texts whose bit is set.
func feedOf(secret int, texts []string, have []bool) impl.Feed {
	leaves := leavesOf(texts)
	f := impl.Feed{
		Public: secret * 5 % 997,
		Head:   signedBy(secret, len(texts), plainDigest(plainLeaves(leaves), len(leaves))),
		Blocks: make([]string, len(texts)),
		Have:   slices.Clone(have),
	}
	for i, text := range texts {
		if have[i] {
			f.Blocks[i] = text
		}
	}
	return f
}

// wholeFeed returns the feed of a reader that has all texts.
func wholeFeed(secret int, texts []string) impl.Feed {
	return feedOf(secret, texts, slices.Repeat([]bool{true}, len(texts)))
}

// emptyFeed returns the feed of a reader that has the head of all texts, and none of them.
func emptyFeed(secret int, texts []string) impl.Feed {
	return feedOf(secret, texts, slices.Repeat([]bool{false}, len(texts)))
}

// newFeed returns a feed without a head.
func newFeed(secret int) impl.Feed {
	return impl.Feed{Public: secret * 5 % 997}
}

// haveLists returns which of n blocks are there: all cases of few blocks; of more, none, all, all but one, only one, and others.
func haveLists(n int) [][]bool {
	lists := [][]bool{}
	if n <= 4 {
		for number := range 1 << n {
			lists = append(lists, bitsOfNumber(number, n))
		}
		return lists
	}
	random := rand.New(rand.NewSource(int64(n)))
	first, last := 1, 1<<(n-1)
	for _, number := range []int{0, -1, first, ^first, last, ^last, 0x5555, random.Int(), random.Int()} {
		lists = append(lists, bitsOfNumber(number, n))
	}
	return lists
}

// readFeed is a valid feed of a reader, with the secret and the texts of its writer.
type readFeed struct {
	secret int
	texts  []string
	feed   impl.Feed
}

// readFeeds returns feeds with heads of all valid lengths, of which none, some or all blocks are there, and such without a head.
func readFeeds() []readFeed {
	feeds := []readFeed{}
	for which, texts := range feedTextLists() {
		secret := headSecrets[which%len(headSecrets)]
		for _, have := range haveLists(len(texts)) {
			feeds = append(feeds, readFeed{secret, texts, feedOf(secret, texts, have)})
		}
	}
	for _, secret := range headSecrets {
		feeds = append(feeds, readFeed{secret, nil, newFeed(secret)})
	}
	return feeds
}

// cloneFeed returns a copy of a feed that shares no memory with it.
func cloneFeed(f impl.Feed) impl.Feed {
	f.Blocks, f.Have = append([]string{}, f.Blocks...), append([]bool{}, f.Have...)
	return f
}

// equalFeeds reports whether two feeds are equal, where nil and empty slices are.
func equalFeeds(f impl.Feed, g impl.Feed) bool {
	return f.Public == g.Public && f.Head == g.Head && slices.Equal(f.Blocks, g.Blocks) && slices.Equal(f.Have, g.Have)
}

// withText returns a copy of a feed with a text at a block that is there then.
func withText(f impl.Feed, i int, text string) impl.Feed {
	f = cloneFeed(f)
	f.Blocks[i], f.Have[i] = text, true
	return f
}

// withoutBlock returns a copy of a feed in which a block is not there.
func withoutBlock(f impl.Feed, i int) impl.Feed {
	f = cloneFeed(f)
	f.Blocks[i], f.Have[i] = "", false
	return f
}

// checkHead fails the test if FeedHead does not return this feed and this code.
func checkHead(t *testing.T, f impl.Feed, h impl.Head, growth []int, want impl.Feed, wantCode int) {
	t.Helper()
	if got, code := impl.FeedHead(f, h, growth); code != wantCode || !equalFeeds(got, want) {
		t.Fatalf("FeedHead of %#v, %#v and %#v is %#v, %d, not %#v, %d", f, h, growth, got, code, want, wantCode)
	}
}

// checkPut fails the test if FeedPut does not return this feed and this result.
func checkPut(t *testing.T, f impl.Feed, i int, text string, proof []int, want impl.Feed, wantOk bool) {
	t.Helper()
	if got, ok := impl.FeedPut(f, i, text, proof); ok != wantOk || !equalFeeds(got, want) {
		t.Fatalf("FeedPut of %#v, %d, %q and %#v is %#v, %#v, not %#v, %#v", f, i, text, proof, got, ok, want, wantOk)
	}
}

// mustPut returns the feed after FeedPut, which must succeed.
func mustPut(t *testing.T, f impl.Feed, i int, text string, proof []int) impl.Feed {
	t.Helper()
	got, ok := impl.FeedPut(f, i, text, proof)
	if !ok {
		t.Fatalf("FeedPut of %#v, %d, %q and %#v fails", f, i, text, proof)
	}
	return got
}

// forgedProof returns a proof that TreeCheck accepts for a digest that is not the leaf of index i, or none if the proof has no members.
// The only fitting last member is found by trying all digests, of which there are few.
func forgedProof(t *testing.T, h impl.Head, leaves []int, i int, leaf int) []int {
	t.Helper()
	proof := impl.TreeProof(leaves, i)
	if len(proof) == 0 {
		return nil
	}
	for member := range impl.Digests {
		forged := withMember(proof, len(proof)-1, member)
		if impl.TreeCheck(h.Digest, h.Length, i, leaf, forged) {
			return forged
		}
	}
	t.Fatalf("no proof for the leaf %d at %d of %#v is found", leaf, i, leaves)
	return nil
}

// forgedGrowth returns a proof that TreeGrowthCheck accepts for a longer head of other leaves.
func forgedGrowth(t *testing.T, leaves []int, h impl.Head) []int {
	t.Helper()
	m := len(leaves)
	growth := impl.TreeGrowth(slices.Concat(leaves, make([]int, h.Length-m)), m)
	for member := range impl.Digests {
		forged := withMember(growth, len(growth)-1, member)
		if impl.TreeGrowthCheck(m, impl.TreeDigest(leaves), h.Length, h.Digest, forged) {
			return forged
		}
	}
	t.Fatalf("no growth from %#v to %#v is found", leaves, h)
	return nil
}

// grownFeed is a feed with a longer head of its writer and the proof of its growth.
type grownFeed struct {
	readFeed
	head   impl.Head
	growth []int
}

// grownFeeds returns feeds of all lengths with heads of all greater lengths. The texts are those of the longer head.
func grownFeeds() []grownFeed {
	grown := []grownFeed{}
	for which, texts := range feedTextLists() {
		secret, leaves := headSecrets[which%len(headSecrets)], leavesOf(texts)
		h := wholeFeed(secret, texts).Head
		for m := range texts {
			for _, have := range haveLists(m) {
				read := readFeed{secret, texts, feedOf(secret, texts[:m], have)}
				grown = append(grown, grownFeed{read, h, impl.TreeGrowth(leaves, m)})
			}
		}
		if len(texts) > 0 {
			grown = append(grown, grownFeed{readFeed{secret, texts, newFeed(secret)}, h, nil})
		}
	}
	return grown
}
