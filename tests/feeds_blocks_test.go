package tests

import (
	"math/rand"
	"slices"
	"testing"

	"loop.example/feedswarm/impl"
)

// missingBlocks calls a function for each block that a feed lacks, with its proof.
func missingBlocks(read readFeed, call func(i int, text string, proof []int)) {
	for i, have := range read.feed.Have {
		if !have {
			call(i, read.texts[i], impl.TreeProof(leavesOf(read.texts), i))
		}
	}
}

func TestPromise46BlockIsThereAndOthersAreUnchanged(t *testing.T) {
	for _, read := range readFeeds() {
		missingBlocks(read, func(i int, text string, proof []int) {
			before := cloneFeed(read.feed)
			f := mustPut(t, read.feed, i, text, proof)
			if !impl.FeedValid(f) || f.Public != before.Public || f.Head != before.Head {
				t.Fatalf("%#v becomes %#v", before, f)
			}
			if len(f.Blocks) != len(before.Blocks) || len(f.Have) != len(before.Have) || f.Blocks[i] != text || !f.Have[i] {
				t.Fatalf("%#v with %q at %d becomes %#v", before, text, i, f)
			}
			if !equalFeeds(withoutBlock(f, i), before) {
				t.Fatalf("%#v with %q at %d becomes %#v, where others differ", before, text, i, f)
			}
		})
	}
}

func TestPromise47RightProofOnly(t *testing.T) {
	for _, read := range readFeeds() {
		n := read.feed.Head.Length
		missingBlocks(read, func(i int, text string, proof []int) {
			bad := [][]int{withFurther(proof, 0), withFurther(proof, -1), withFurther(proof, read.feed.Head.Digest), slices.Repeat([]int{0}, 1000)}
			for place, member := range proof {
				bad = append(bad, nil, proof[:len(proof)-1], proof[1:], withMember(proof, place, (member+1)%impl.Digests))
				bad = append(bad, withMember(proof, place, member+impl.Digests), withMember(proof, place, -1))
			}
			for _, changed := range bad {
				if impl.TreeCheck(read.feed.Head.Digest, n, i, impl.DigestText(text), changed) {
					t.Fatalf("TreeCheck accepts %#v for %q at %d of %#v", changed, text, i, read.texts)
				}
				checkPut(t, read.feed, i, text, changed, cloneFeed(read.feed), false)
			}
		})
	}
}

func TestPromise47RightTextOnly(t *testing.T) {
	random := rand.New(rand.NewSource(12))
	list := digestTexts()
	for _, read := range readFeeds() {
		missingBlocks(read, func(i int, text string, proof []int) {
			for range 20 {
				other := list[random.Intn(len(list))]
				if impl.DigestText(other) != impl.DigestText(text) {
					checkPut(t, read.feed, i, other, proof, cloneFeed(read.feed), false)
				}
			}
		})
	}
}

// The block and the proof of another index are refused, unless TreeCheck accepts them.
func TestPromise47OtherIndex(t *testing.T) {
	for _, read := range readFeeds() {
		leaves, h := leavesOf(read.texts), read.feed.Head
		for i := range leaves {
			for j := range leaves {
				f, ok := impl.FeedPut(read.feed, i, read.texts[j], impl.TreeProof(leaves, j))
				right := impl.TreeCheck(h.Digest, h.Length, i, leaves[j], impl.TreeProof(leaves, j))
				if ok && !right || !ok && !equalFeeds(f, read.feed) {
					t.Fatalf("FeedPut of block %d at %d of %#v is %#v, %#v", j, i, read.feed, f, ok)
				}
				if ok != (right && !read.feed.Have[i]) {
					t.Fatalf("FeedPut of block %d at %d of %#v is %#v, %#v", j, i, read.feed, f, ok)
				}
			}
		}
	}
}

// Any text with the right digest is stored, since only digests are signed.
func TestPromise47OtherTextWithTheSameDigest(t *testing.T) {
	byDigest := map[int][]string{}
	for _, text := range digestTexts() {
		byDigest[impl.DigestText(text)] = append(byDigest[impl.DigestText(text)], text)
	}
	for n := 1; n <= impl.MaxBlocks; n++ {
		texts := feedTexts(n)
		for i, text := range texts {
			for _, other := range byDigest[impl.DigestText(text)] {
				proof := impl.TreeProof(leavesOf(texts), i)
				for _, f := range []impl.Feed{emptyFeed(7, texts), withoutBlock(wholeFeed(7, texts), i)} {
					checkPut(t, f, i, other, proof, withText(f, i, other), true)
				}
			}
		}
	}
}

func TestPromise48BlockThatIsThere(t *testing.T) {
	for _, read := range readFeeds() {
		missingBlocks(read, func(i int, text string, proof []int) {
			f := mustPut(t, read.feed, i, text, proof)
			want := cloneFeed(f)
			for _, again := range []string{text, "", "other", "\xff\xff\xff\xff\xff\xff\xff\xff"} {
				for _, other := range [][]int{proof, nil, {}, {0}, {-1}} {
					checkPut(t, f, i, again, other, want, false)
				}
			}
		})
	}
}

// The proof is right for the other text, so that only the block that is there is a reason to refuse it.
func TestPromise48OtherBlockWithItsProof(t *testing.T) {
	for n := 2; n <= impl.MaxBlocks; n++ {
		texts := feedTexts(n)
		for i := range texts {
			f := withText(emptyFeed(7, texts), i, texts[i])
			proof := forgedProof(t, f.Head, leavesOf(texts), i, impl.DigestText("other"))
			checkPut(t, f, i, "other", proof, cloneFeed(f), false)
			checkPut(t, emptyFeed(7, texts), i, "other", proof, withText(emptyFeed(7, texts), i, "other"), true)
		}
	}
}

// feedOrders returns orders of n blocks: all of few, and some of more.
func feedOrders(n int) [][]int {
	orders := [][]int{{}}
	if n > 5 {
		random := rand.New(rand.NewSource(int64(n)))
		up := random.Perm(n)
		slices.Sort(up)
		down := slices.Clone(up)
		slices.Reverse(down)
		orders = [][]int{up, down}
		for range 30 {
			orders = append(orders, random.Perm(n))
		}
		return orders
	}
	for last := range n {
		longer := [][]int{}
		for _, order := range orders {
			for place := range len(order) + 1 {
				longer = append(longer, slices.Insert(slices.Clone(order), place, last))
			}
		}
		orders = longer
	}
	return orders
}

func TestPromise49LastMissingBlock(t *testing.T) {
	for which, texts := range feedTextLists() {
		secret, leaves := headSecrets[which%len(headSecrets)], leavesOf(texts)
		for i, text := range texts {
			f := mustPut(t, withoutBlock(wholeFeed(secret, texts), i), i, text, impl.TreeProof(leaves, i))
			for j := range texts {
				proof, ok := impl.FeedProve(f, j)
				if !ok || !impl.TreeCheck(f.Head.Digest, f.Head.Length, j, leaves[j], proof) {
					t.Fatalf("after the last block %d, FeedProve of %#v and %d is %#v, %#v", i, f, j, proof, ok)
				}
			}
		}
	}
}

// Blocks are put in every order; before the last one is there, nothing is proved.
func TestPromise49EveryOrder(t *testing.T) {
	for n := 1; n <= impl.MaxBlocks; n++ {
		texts := feedTexts(n)
		leaves := leavesOf(texts)
		for _, order := range feedOrders(n) {
			f := emptyFeed(7, texts)
			for _, i := range order {
				if proof, ok := impl.FeedProve(f, i); ok || len(proof) > 0 {
					t.Fatalf("FeedProve of %#v and %d is %#v, %#v", f, i, proof, ok)
				}
				f = mustPut(t, f, i, texts[i], impl.TreeProof(leaves, i))
			}
			for i := range texts {
				if proof, ok := impl.FeedProve(f, i); !ok || !slices.Equal(proof, impl.TreeProof(leaves, i)) {
					t.Fatalf("after the order %#v, FeedProve of %#v and %d is %#v, %#v", order, f, i, proof, ok)
				}
			}
		}
	}
}

// provedFeeds calls a function for each whole feed and each of its blocks, with what FeedProve returns.
func provedFeeds(t *testing.T, call func(f impl.Feed, i int, proof []int)) {
	t.Helper()
	for which, texts := range feedTextLists() {
		f := wholeFeed(headSecrets[which%len(headSecrets)], texts)
		for i := range texts {
			proof, ok := impl.FeedProve(f, i)
			if !ok {
				t.Fatalf("FeedProve of %#v and %d fails", f, i)
			}
			call(f, i, proof)
		}
	}
}

func TestPromise50ProofIsAccepted(t *testing.T) {
	provedFeeds(t, func(f impl.Feed, i int, proof []int) {
		if !impl.TreeCheck(f.Head.Digest, f.Head.Length, i, impl.DigestText(f.Blocks[i]), proof) {
			t.Fatalf("the proof %#v of %#v and %d is rejected", proof, f, i)
		}
	})
}

func TestPromise51ReaderStoresTheBlock(t *testing.T) {
	provedFeeds(t, func(f impl.Feed, i int, proof []int) {
		for _, have := range haveLists(len(f.Have)) {
			reader := cloneFeed(f)
			for j := range have {
				if !have[j] || i == j {
					reader = withoutBlock(reader, j)
				}
			}
			checkPut(t, reader, i, f.Blocks[i], proof, withText(reader, i, f.Blocks[i]), true)
		}
	})
}

func TestPromise52ReaderComesToIt(t *testing.T) {
	for which, texts := range feedTextLists() {
		secret := headSecrets[which%len(headSecrets)]
		f := wholeFeed(secret, texts)
		for _, order := range feedOrders(len(texts))[:min(3, len(feedOrders(len(texts))))] {
			reader, _ := impl.FeedNew(f.Public)
			if len(texts) > 0 {
				reader, _ = impl.FeedHead(reader, f.Head, nil)
			} else {
				reader.Head = f.Head
			}
			for _, i := range order {
				proof, ok := impl.FeedProve(f, i)
				if !ok {
					t.Fatalf("FeedProve of %#v and %d fails", f, i)
				}
				reader = mustPut(t, reader, i, f.Blocks[i], proof)
			}
			if !equalFeeds(reader, f) {
				t.Fatalf("the reader has %#v, not %#v", reader, f)
			}
		}
	}
}

// A reader whose feed grows while it reads comes to the same feed.
func TestPromise52ReaderOfAGrowingFeed(t *testing.T) {
	for n := 1; n <= impl.MaxBlocks; n++ {
		texts := feedTexts(n)
		reader := newFeed(7)
		for m := 1; m <= n; m++ {
			leaves := leavesOf(texts[:m])
			f, code := impl.FeedHead(reader, wholeFeed(7, texts[:m]).Head, impl.TreeGrowth(leaves, m-1))
			if code != impl.HeadDone {
				t.Fatalf("FeedHead of %#v and %d blocks is %d", reader, m, code)
			}
			// Every other block is left until the end.
			if reader = f; m%2 == 1 {
				reader = mustPut(t, reader, m-1, texts[m-1], impl.TreeProof(leaves, m-1))
			}
		}
		for i := 1; i < n; i += 2 {
			proof, _ := impl.FeedProve(wholeFeed(7, texts), i)
			reader = mustPut(t, reader, i, texts[i], proof)
		}
		if !equalFeeds(reader, wholeFeed(7, texts)) {
			t.Fatalf("the reader has %#v, not %#v", reader, wholeFeed(7, texts))
		}
	}
}

func TestPromise53GrowthOfAProvedFeed(t *testing.T) {
	provedFeeds(t, func(f impl.Feed, i int, proof []int) {
		leaves := leavesOf(f.Blocks)
		for m := range len(leaves) + 1 {
			if !impl.TreeGrowthCheck(m, impl.TreeDigest(leaves[:m]), f.Head.Length, f.Head.Digest, impl.TreeGrowth(leaves, m)) {
				t.Fatalf("the growth of %#v from %d blocks is rejected", f, m)
			}
		}
	})
}

// All digests are tried as those of the head: if all blocks are there, only the right one is valid.
func TestPromise54WholeFeedHasTheDigestOfItsHead(t *testing.T) {
	for which, texts := range feedTextLists() {
		secret := headSecrets[which%len(headSecrets)]
		f := wholeFeed(secret, texts)
		right := impl.TreeDigest(leavesOf(texts))
		for digest := range impl.Digests {
			f.Head = signedBy(secret, len(texts), digest)
			if len(texts) > 0 && impl.FeedValid(f) != (digest == right) {
				t.Fatalf("%#v is judged wrongly", f)
			}
			if len(texts) > 0 && !impl.FeedValid(withoutBlock(f, 0)) {
				t.Fatalf("%#v is invalid", withoutBlock(f, 0))
			}
			if proof, ok := impl.FeedProve(f, 0); ok != (len(texts) > 0 && digest == right) || !ok && len(proof) > 0 {
				t.Fatalf("FeedProve of %#v is %#v, %#v", f, proof, ok)
			}
		}
	}
}

func TestPromise55OneMoreBlock(t *testing.T) {
	for _, read := range readFeeds() {
		missingBlocks(read, func(i int, text string, proof []int) {
			before := impl.BitsCount(read.feed.Have)
			if f := mustPut(t, read.feed, i, text, proof); impl.BitsCount(f.Have) != before+1 {
				t.Fatalf("%#v with %q at %d becomes %#v", read.feed, text, i, f)
			}
		})
	}
}

func TestPromise58FeedWithoutOneBlock(t *testing.T) {
	for _, read := range readFeeds() {
		if !impl.FeedValid(read.feed) {
			t.Fatalf("%#v is invalid", read.feed)
		}
		for i := range read.texts {
			if !impl.FeedValid(withoutBlock(read.feed, i)) {
				t.Fatalf("%#v is invalid without block %d", read.feed, i)
			}
		}
	}
}
