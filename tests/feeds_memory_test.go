package tests

import (
	"slices"
	"testing"

	"loop.example/feedswarm/impl"
)

// roomyFeed returns a feed whose slices lie within larger memory, and a function that reports whether all of it is unchanged.
func roomyFeed(f impl.Feed) (impl.Feed, func() bool) {
	blocks := slices.Concat([]string{"around"}, f.Blocks, slices.Repeat([]string{"around"}, 20))
	have, whole := roomyBits(f.Have, true)
	blocksBefore, wholeBefore := slices.Clone(blocks), slices.Clone(whole)
	f.Blocks, f.Have = blocks[1:1+len(f.Blocks)], have
	return f, func() bool {
		return slices.Equal(blocks, blocksBefore) && slices.Equal(whole, wholeBefore)
	}
}

// feedCall is a call of a function of feeds, with its list of numbers as an argument.
type feedCall struct {
	name    string
	numbers []int
	call    func(f impl.Feed, numbers []int) impl.Feed
}

// headCalls returns calls of FeedHead that return each of its codes, as far as the feed permits.
func headCalls(read readFeed) []feedCall {
	calls := []feedCall{}
	leaves := leavesOf(slices.Concat(read.texts, feedTexts(impl.MaxBlocks-len(read.texts))))
	for n := range len(leaves) + 1 {
		for _, digest := range []int{impl.TreeDigest(leaves[:n]), 0} {
			h := signedBy(read.secret, n, digest)
			calls = append(calls, feedCall{"FeedHead", impl.TreeGrowth(leaves[:n], len(read.texts)), func(f impl.Feed, numbers []int) impl.Feed {
				got, _ := impl.FeedHead(f, h, numbers)
				return got
			}})
		}
	}
	return calls
}

// putCalls returns calls of FeedPut that succeed, and such that fail for each reason, as far as the feed permits.
func putCalls(read readFeed) []feedCall {
	calls := []feedCall{}
	for i := -1; i <= len(read.texts); i++ {
		proof := impl.TreeProof(leavesOf(read.texts), i)
		texts := []string{"wrong", "toolongxx"}
		if i >= 0 && i < len(read.texts) {
			texts = append(texts, read.texts[i])
		}
		for _, text := range texts {
			calls = append(calls, feedCall{"FeedPut", proof, func(f impl.Feed, numbers []int) impl.Feed {
				got, _ := impl.FeedPut(f, i, text, numbers)
				return got
			}})
		}
	}
	return calls
}

// memoryFeeds returns valid feeds, such to which a last right block cannot be put, and invalid ones.
func memoryFeeds() []readFeed {
	feeds := []readFeed{}
	for which, read := range readFeeds() {
		feeds = append(feeds, read)
		if n := len(read.texts); n > 1 && plainCount(read.feed.Have) == n {
			other := withoutBlock(withText(read.feed, 0, "other"), n-1)
			feeds = append(feeds, readFeed{read.secret, read.texts, other})
		}
		if which%10 == 0 {
			for _, broken := range slices.Concat(brokenNumbersOfMembers(read), brokenTexts(read)) {
				feeds = append(feeds, readFeed{read.secret, read.texts, broken})
			}
		}
	}
	return feeds
}

// What lies around an argument is neither read nor changed, and neither is the argument changed.
func TestFeedsKeepTheirArguments(t *testing.T) {
	for _, read := range memoryFeeds() {
		for _, c := range append(headCalls(read), putCalls(read)...) {
			f, unchanged := roomyFeed(read.feed)
			numbers, whole := roomy(c.numbers)
			before := slices.Clone(whole)
			got, want := c.call(f, numbers), c.call(cloneFeed(read.feed), c.numbers)
			if !equalFeeds(got, want) {
				t.Fatalf("%s of %#v and %#v is %#v or %#v", c.name, read.feed, c.numbers, got, want)
			}
			if !unchanged() || !slices.Equal(whole, before) {
				t.Fatalf("%s changes its arguments %#v and %#v", c.name, read.feed, c.numbers)
			}
		}
		f, unchanged := roomyFeed(read.feed)
		valid := impl.FeedValid(f)
		for i := -1; i <= len(read.texts); i++ {
			impl.FeedProve(f, i)
		}
		if !unchanged() || impl.FeedValid(f) != valid || impl.FeedValid(cloneFeed(read.feed)) != valid {
			t.Fatalf("FeedValid or FeedProve changes %#v", read.feed)
		}
	}
}

// spoil writes into all memory of a feed, up to the capacity of its slices.
func spoil(f impl.Feed) {
	blocks, have := f.Blocks[:cap(f.Blocks)], f.Have[:cap(f.Have)]
	for place := range blocks {
		blocks[place] = "spoilt"
	}
	for place := range have {
		have[place] = !have[place]
	}
}

// Whatever is written into a result must be seen neither in the arguments nor in other results.
func TestFeedResultsShareNoMemory(t *testing.T) {
	for _, read := range memoryFeeds() {
		for _, c := range append(headCalls(read), putCalls(read)...) {
			f, unchanged := roomyFeed(read.feed)
			first, second := c.call(f, c.numbers), c.call(f, c.numbers)
			want := cloneFeed(second)
			spoil(first)
			if !unchanged() {
				t.Fatalf("the result of %s shares memory with its argument %#v", c.name, read.feed)
			}
			// Before the later call, which would write the result into shared memory again.
			if !equalFeeds(second, want) {
				t.Fatalf("two results of %s of %#v share memory", c.name, read.feed)
			}
			if later := c.call(f, c.numbers); !equalFeeds(later, want) {
				t.Fatalf("%s of %#v is %#v, and %#v in a later call", c.name, read.feed, want, later)
			}
		}
	}
}

// A later change of the argument must not be seen in a result.
func TestFeedResultsKeepNoArguments(t *testing.T) {
	for _, read := range memoryFeeds() {
		for _, c := range append(headCalls(read), putCalls(read)...) {
			f := cloneFeed(read.feed)
			got := c.call(f, c.numbers)
			want := cloneFeed(got)
			spoil(f)
			if !equalFeeds(got, want) {
				t.Fatalf("the result of %s keeps its argument %#v", c.name, read.feed)
			}
		}
	}
}

func TestFeedProofsShareNoMemory(t *testing.T) {
	for _, read := range memoryFeeds() {
		for i := -1; i <= len(read.texts); i++ {
			f, unchanged := roomyFeed(read.feed)
			checkOwnMemory(t, "FeedProve", func() []int {
				proof, _ := impl.FeedProve(f, i)
				return proof
			}, -9)
			if !unchanged() {
				t.Fatalf("FeedProve changes %#v", read.feed)
			}
		}
	}
}

func TestNewFeedsShareNoMemory(t *testing.T) {
	for _, public := range []int{-1, 0, 1, 35, impl.Keys - 1, impl.Keys} {
		first, _ := impl.FeedNew(public)
		second, _ := impl.FeedNew(public)
		want := cloneFeed(second)
		spoil(first)
		first.Blocks, first.Have = append(first.Blocks, "spoilt"), append(first.Have, true)
		second.Blocks, second.Have = append(second.Blocks, ""), append(second.Have, false)
		if first.Blocks[0] != "spoilt" || !first.Have[0] {
			t.Errorf("two results of FeedNew of %d share memory", public)
		}
		if later, _ := impl.FeedNew(public); !equalFeeds(later, want) {
			t.Errorf("FeedNew of %d is %#v, and %#v in a later call", public, want, later)
		}
	}
}

// Feeds without blocks are tried with all combinations of nil and empty slices.
func TestFeedsOfNilAndEmptyAreEqual(t *testing.T) {
	for _, head := range []impl.Head{{}, signedBy(7, 0, 0), signedBy(7, 0, 5), {Sign: 1}, signedBy(7, 1, 5)} {
		for _, blocks := range [][]string{nil, {}} {
			for _, have := range [][]bool{nil, {}} {
				for _, numbers := range [][]int{nil, {}} {
					f, plain := impl.Feed{Public: 35, Head: head, Blocks: blocks, Have: have}, impl.Feed{Public: 35, Head: head}
					if impl.FeedValid(f) != impl.FeedValid(plain) {
						t.Fatalf("%#v is judged in two ways", f)
					}
					for _, h := range []impl.Head{{}, head, signedBy(7, 1, 211), signedBy(8, 1, 211)} {
						want, code := impl.FeedHead(plain, h, nil)
						checkHead(t, f, h, numbers, want, code)
					}
					want, ok := impl.FeedPut(plain, 0, "", nil)
					checkPut(t, f, 0, "", numbers, want, ok)
					if proof, ok := impl.FeedProve(f, 0); ok || len(proof) > 0 {
						t.Fatalf("FeedProve of %#v is %#v, %#v", f, proof, ok)
					}
				}
			}
		}
	}
}

// The proof for the only block is empty, and so is no proof of the growth from no blocks.
func TestFeedProofsOfNilAndEmptyAreEqual(t *testing.T) {
	for _, text := range []string{"", "a", "\xff\xff\xff\xff\xff\xff\xff\xff"} {
		for _, numbers := range [][]int{nil, {}} {
			f := emptyFeed(7, []string{text})
			checkHead(t, newFeed(7), f.Head, numbers, f, impl.HeadDone)
			checkPut(t, f, 0, text, numbers, wholeFeed(7, []string{text}), true)
			checkHead(t, f, signedBy(7, 2, 5), numbers, f, impl.HeadWrong)
			two := emptyFeed(7, []string{text, text})
			checkPut(t, two, 0, text, numbers, two, false)
		}
	}
}
