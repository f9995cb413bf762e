package tests

import (
	"math/rand"
	"slices"
	"testing"

	"loop.example/feedswarm/impl"
)

// The values of this test are computed from the document's rules outside of the program.
func TestForkValues(t *testing.T) {
	for _, c := range []struct {
		fork impl.Fork
		want bool
	}{
		{impl.Fork{Public: 35, A: impl.Head{Length: 2, Digest: 266, Sign: 394}, B: impl.Head{Length: 2, Digest: 555, Sign: 100}}, true},
		{impl.Fork{Public: 1, A: impl.Head{Length: 2, Digest: 266, Sign: 524}, B: impl.Head{Length: 2, Digest: 555, Sign: 715}}, true},
		{impl.Fork{Public: 996, A: impl.Head{Length: 16, Digest: 18, Sign: 636}, B: impl.Head{Length: 16, Digest: 379, Sign: 796}}, true},
		{impl.Fork{Public: 992, A: impl.Head{Length: 16, Digest: 0, Sign: 495}, B: impl.Head{Length: 16, Digest: 990, Sign: 512}}, true},
		{impl.Fork{Public: 5, A: impl.Head{Length: 0, Digest: 0, Sign: 6}, B: impl.Head{Length: 0, Digest: 990, Sign: 980}}, true},
		{impl.Fork{Public: 35, A: impl.Head{Length: 2, Digest: 266, Sign: 394}, B: impl.Head{Length: 2, Digest: 266, Sign: 394}}, false},
		{impl.Fork{Public: 35, A: impl.Head{Length: 2, Digest: 266, Sign: 394}, B: impl.Head{Length: 16, Digest: 18, Sign: 671}}, false},
		{impl.Fork{Public: 35, A: impl.Head{Length: 2, Digest: 266, Sign: 394}, B: impl.Head{Length: 2, Digest: 555, Sign: 715}}, false},
		{impl.Fork{Public: 5, A: impl.Head{}, B: impl.Head{Length: 0, Digest: 990, Sign: 980}}, false},
		{impl.Fork{}, false},
	} {
		checkFork(t, c.fork, c.want)
		checkFork(t, turned(c.fork), c.want)
		want := []int{}
		if c.want {
			want = []int{c.fork.Public}
		}
		checkNamed(t, []impl.Fork{c.fork}, want)
		checkNamed(t, []impl.Fork{c.fork, turned(c.fork)}, want)
	}
}

// All pairs of digests are tried, so each pair is tried in both orders.
func TestPromise59TwoDigestsOfOneLength(t *testing.T) {
	for _, length := range []int{0, 3, impl.MaxBlocks} {
		for a := range impl.Digests {
			for b := range impl.Digests {
				checkFork(t, forkOf(7, length, a, b), a != b)
			}
		}
	}
}

func TestPromise59RightProofsInBothOrders(t *testing.T) {
	for _, right := range rightForks() {
		checkFork(t, right.fork, true)
		checkFork(t, turned(right.fork), true)
	}
}

func TestPromise59HeadsThatAreNotSigned(t *testing.T) {
	for _, right := range rightForks() {
		for _, x := range unsignedForks(right) {
			if impl.HeadCheck(x.Public, x.A) && impl.HeadCheck(x.Public, x.B) {
				t.Fatalf("both heads of %#v are signed", x)
			}
			checkFork(t, x, false)
			checkFork(t, turned(x), false)
		}
	}
}

// Every signature is tried in the place of one of both: only one is right.
func TestPromise59OnlyOneSignatureIsRight(t *testing.T) {
	for _, length := range forkLengths {
		right := forkOf(7, length, 344, 500)
		for _, sign := range signsAround() {
			x := right
			x.A.Sign = sign
			checkFork(t, x, sign == right.A.Sign)
			checkFork(t, turned(x), sign == right.A.Sign)
		}
	}
}

func TestPromise59HeadsOfAnotherWriter(t *testing.T) {
	for _, right := range rightForks() {
		for _, x := range strangeForks(right) {
			checkFork(t, x, false)
			checkFork(t, turned(x), false)
		}
	}
}

// All pairs of lengths are tried, with different digests and with equal ones.
func TestPromise59HeadsOfTwoLengths(t *testing.T) {
	for first := range impl.MaxBlocks + 1 {
		for second := range impl.MaxBlocks + 1 {
			for _, pair := range forkDigests {
				checkFork(t, impl.Fork{Public: 35, A: signedBy(7, first, pair[0]), B: signedBy(7, second, pair[1])}, first == second)
				checkFork(t, impl.Fork{Public: 35, A: signedBy(7, first, pair[0]), B: signedBy(7, second, pair[0])}, false)
			}
		}
	}
}

// Heads that follow each other in an honest feed are of different lengths and prove nothing.
func TestPromise59HonestWriterIsNotAccused(t *testing.T) {
	for _, texts := range feedTextLists() {
		heads := []impl.Head{}
		for n := range len(texts) + 1 {
			h, _ := impl.HeadMake(7, leavesOf(texts[:n]))
			heads = append(heads, h)
		}
		for _, a := range heads {
			for _, b := range heads {
				checkFork(t, impl.Fork{Public: 35, A: a, B: b}, false)
			}
		}
	}
}

// All heads of the writers are tried.
func TestPromise60SameHeadTwice(t *testing.T) {
	for _, secret := range headSecrets {
		for length := range impl.MaxBlocks + 1 {
			for digest := range impl.Digests {
				checkFork(t, forkOf(secret, length, digest, digest), false)
			}
		}
	}
	for _, right := range rightForks() {
		for _, h := range unsignedHeads(right.secret, right.fork.A.Length, right.fork.A.Digest) {
			checkFork(t, impl.Fork{Public: right.fork.Public, A: h, B: h}, false)
		}
	}
	checkFork(t, impl.Fork{Public: 35}, false)
}

func TestPromise61MeetingProvesTheFork(t *testing.T) {
	met := 0
	for _, read := range readFeeds() {
		f, g := read.feed, forkedFeed(read)
		x, ok := impl.ForkMeet(f, g)
		// A feed without a head cannot have forked.
		if ok != (f.Head != impl.Head{}) {
			t.Fatalf("ForkMeet of %#v and %#v is %#v, %#v", f, g, x, ok)
		}
		if !ok {
			continue
		}
		if x != (impl.Fork{Public: f.Public, A: f.Head, B: g.Head}) || x.Public != g.Public || !impl.ForkCheck(x) {
			t.Fatalf("ForkMeet of %#v and %#v is %#v", f, g, x)
		}
		checkMeet(t, g, f, turned(x), true)
		checkNamed(t, []impl.Fork{x}, []int{read.secret * 5 % 997})
		met++
	}
	if met < 100 {
		t.Errorf("only %d feeds meet", met)
	}
}

// Readers of both sides have got the texts of their side, in part or all.
func TestPromise61ReadersOfBothSides(t *testing.T) {
	for n := 1; n <= impl.MaxBlocks; n++ {
		texts := feedTexts(n)
		for i := range texts {
			other := slices.Clone(texts)
			other[i] = "other"
			for _, have := range haveLists(n) {
				f, g := feedOf(7, texts, have), feedOf(7, other, have)
				for _, pair := range [][2]impl.Feed{{f, g}, {f, wholeFeed(7, other)}, {emptyFeed(7, texts), g}} {
					want := impl.Fork{Public: 35, A: f.Head, B: g.Head}
					checkMeet(t, pair[0], pair[1], want, true)
					checkMeet(t, pair[1], pair[0], turned(want), true)
				}
			}
		}
	}
}

// The refused head proves the fork, and so does a meeting with a reader that has accepted it.
func TestPromise62RefusedHeadProvesTheFork(t *testing.T) {
	random := rand.New(rand.NewSource(16))
	refused := 0
	for _, read := range mixedFeeds(random) {
		heads := mixedHeads(random, read)
		for range 5 {
			heads = append(heads, signedBy(read.secret, len(read.texts), random.Intn(impl.Digests)))
		}
		for _, h := range heads {
			f, code := impl.FeedHead(read.feed, h, nil)
			if code != impl.HeadFork {
				continue
			}
			x := impl.Fork{Public: f.Public, A: f.Head, B: h}
			checkFork(t, x, true)
			checkFork(t, turned(x), true)
			checkNamed(t, []impl.Fork{x}, []int{f.Public})
			g, code := impl.FeedHead(newFeed(read.secret), h, nil)
			if code != impl.HeadDone {
				t.Fatalf("a new feed refuses %#v with %d", h, code)
			}
			checkMeet(t, f, g, x, true)
			checkMeet(t, g, f, turned(x), true)
			refused++
		}
	}
	if refused < 1000 {
		t.Errorf("only %d heads are refused", refused)
	}
}

// All codes but HeadFork tell that the heads prove nothing.
func TestPromise62OtherHeadsProveNothing(t *testing.T) {
	for _, c := range grownFeeds() {
		for _, h := range []impl.Head{c.head, c.feed.Head, signedBy(otherSecret(c.secret), c.feed.Head.Length, 5)} {
			if _, code := impl.FeedHead(c.feed, h, c.growth); code == impl.HeadFork {
				t.Fatalf("FeedHead of %#v and %#v is %d", c.feed, h, code)
			}
			checkFork(t, impl.Fork{Public: c.feed.Public, A: c.feed.Head, B: h}, false)
		}
	}
}

// signedFeeds returns valid feeds of one writer with signed heads of all lengths and several digests.
func signedFeeds(secret int) []impl.Feed {
	feeds := []impl.Feed{}
	for n := range impl.MaxBlocks + 1 {
		texts := feedTexts(n)
		feeds = append(feeds, wholeFeed(secret, texts), emptyFeed(secret, texts))
		feeds = append(feeds, withDigest(secret, n, 0), withDigest(secret, n, n), withDigest(secret, n, impl.Digests-1))
		if n > 1 {
			feeds = append(feeds, withoutBlock(wholeFeed(secret, texts), n-1), wholeFeed(secret, slices.Repeat([]string{""}, n)))
		}
	}
	return feeds
}

func TestPromise63LengthAndDigestDecide(t *testing.T) {
	for _, secret := range []int{1, 7, 399, 598} {
		feeds := signedFeeds(secret)
		for _, f := range feeds {
			for _, g := range feeds {
				fork := f.Head.Length == g.Head.Length && f.Head.Digest != g.Head.Digest
				want := impl.Fork{}
				if fork {
					want = impl.Fork{Public: f.Public, A: f.Head, B: g.Head}
				}
				checkMeet(t, f, g, want, fork)
			}
		}
	}
}

// Readers of one head may have different blocks.
func TestPromise63FeedsWithTheSameHead(t *testing.T) {
	for _, texts := range feedTextLists() {
		lists := haveLists(len(texts))
		for _, have := range lists {
			checkNoFork(t, feedOf(7, texts, have), feedOf(7, texts, lists[0]))
			checkNoFork(t, feedOf(7, texts, have), feedOf(7, texts, have))
		}
	}
}

// All digests are tried: the zero head is not signed, so it proves nothing against a signed head of no blocks.
func TestPromise63FeedWithoutAHead(t *testing.T) {
	for _, secret := range headSecrets {
		checkNoFork(t, newFeed(secret), newFeed(secret))
		for digest := range impl.Digests {
			checkNoFork(t, newFeed(secret), withDigest(secret, 0, digest))
		}
	}
	for _, read := range readFeeds() {
		checkNoFork(t, newFeed(read.secret), read.feed)
	}
}

func TestPromise64AllWritersAscending(t *testing.T) {
	forks, want := []impl.Fork{}, []int{}
	for secret := 1; secret < impl.Keys; secret++ {
		forks = append(forks, forkOf(secret, secret%(impl.MaxBlocks+1), secret%impl.Digests, (secret+1)%impl.Digests))
		want = append(want, secret)
	}
	random := rand.New(rand.NewSource(17))
	for range 20 {
		checkNamed(t, forks, want)
		checkNamed(t, slices.Concat(forks, forks), want)
		random.Shuffle(len(forks), func(i int, j int) { forks[i], forks[j] = forks[j], forks[i] })
	}
}

// Proofs of five writers, of one of them two, are tried in every order.
func TestPromise64EveryOrder(t *testing.T) {
	forks := []impl.Fork{forkOf(598, 1, 2, 3), forkOf(399, 0, 0, 1), forkOf(7, 16, 5, 6), forkOf(7, 4, 8, 7), forkOf(200, 16, 990, 0)}
	want := []int{1, 3, 35, 996}
	for _, order := range feedOrders(len(forks)) {
		list := []impl.Fork{}
		for _, place := range order {
			list = append(list, forks[place])
		}
		checkNamed(t, list, want)
		checkNamed(t, append(list, list[0], turned(list[0])), want)
	}
}

func TestPromise64EachWriterOnce(t *testing.T) {
	for _, right := range rightForks() {
		for _, times := range []int{2, 3, 100} {
			checkNamed(t, slices.Repeat([]impl.Fork{right.fork}, times), []int{right.fork.Public})
		}
		checkNamed(t, []impl.Fork{right.fork, turned(right.fork)}, []int{right.fork.Public})
	}
	for _, secret := range headSecrets {
		list := []impl.Fork{}
		for _, right := range rightForks() {
			if right.secret == secret {
				list = append(list, right.fork)
			}
		}
		checkNamed(t, list, []int{secret * 5 % 997})
	}
}

// Right and wrong proofs alternate; the wrong ones are of the same writer or of one who is not named.
func TestPromise64RightAndWrongProofsAlternate(t *testing.T) {
	for _, right := range rightForks() {
		list, other := []impl.Fork{}, forkOf(otherSecret(right.secret), 3, 1, 2)
		for place, x := range wrongForks(right) {
			list = append(list, x)
			if place%2 == 0 {
				list = append(list, right.fork)
			}
		}
		checkNamed(t, list, []int{right.fork.Public})
		both := []int{right.fork.Public, other.Public}
		slices.Sort(both)
		checkNamed(t, append(list, other), both)
		checkNamed(t, slices.Concat([]impl.Fork{other}, list), both)
	}
}

func TestPromise65NoProofs(t *testing.T) {
	checkNamed(t, nil, nil)
	checkNamed(t, []impl.Fork{}, nil)
}

func TestPromise65OneProof(t *testing.T) {
	for _, right := range rightForks() {
		checkNamed(t, []impl.Fork{right.fork}, []int{right.fork.Public})
		checkNamed(t, []impl.Fork{turned(right.fork)}, []int{right.fork.Public})
		for _, x := range wrongForks(right) {
			checkNamed(t, []impl.Fork{x}, nil)
		}
	}
}

// mixedForks returns right and wrong proofs of several writers in a random order.
func mixedForks(random *rand.Rand, many int) []impl.Fork {
	list, forks := []impl.Fork{}, rightForks()
	for range many {
		right := forks[random.Intn(len(forks))]
		wrong := wrongForks(right)
		list = append(list, slices.Concat([]impl.Fork{right.fork}, wrong)[random.Intn(2)*random.Intn(len(wrong)+1)])
	}
	return list
}

// furtherForks returns proofs to be added to a list: those of the list once more, in both orders of their heads, and others.
func furtherForks(random *rand.Rand, list []impl.Fork) []impl.Fork {
	forks := mixedForks(random, 5)
	for _, x := range list {
		forks = append(forks, x, turned(x))
	}
	return forks
}

// checkKept fails the test if one proof more removes a public key or adds more than one.
func checkKept(t *testing.T, before []int, list []impl.Fork) []int {
	t.Helper()
	after := impl.ForkNamed(list)
	for _, public := range before {
		if !slices.Contains(after, public) {
			t.Fatalf("%d is named without one of the proofs %#v, but not with all of them", public, list)
		}
	}
	if len(after) > len(before)+1 {
		t.Fatalf("%#v becomes %#v by one of the proofs %#v", before, after, list)
	}
	return after
}

// The further proof is tried at each place, from before the first proof to behind the last one.
func TestPromise66FurtherProofKeepsThePreviousOnes(t *testing.T) {
	random := rand.New(rand.NewSource(18))
	for _, many := range []int{0, 1, 1, 1, 2, 2, 2, 3, 3, 3, 4, 5, 6, 7, 8, 9, 10, 20, 30, 40} {
		list := mixedForks(random, many)
		before := impl.ForkNamed(list)
		for _, further := range furtherForks(random, list) {
			for place := range many + 1 {
				checkKept(t, before, slices.Insert(slices.Clone(list), place, further))
			}
		}
	}
}

// The proofs of all writers come one by one, each at a random place, until all writers are named.
func TestPromise66WritersAreNamedOneByOne(t *testing.T) {
	random := rand.New(rand.NewSource(24))
	list, named := []impl.Fork{}, []int{}
	for _, number := range random.Perm(impl.Keys - 1) {
		further := forkOf(number+1, number%(impl.MaxBlocks+1), number%impl.Digests, (number+1)%impl.Digests)
		list = slices.Insert(list, random.Intn(len(list)+1), further)
		named = checkKept(t, named, list)
	}
	if len(named) != impl.Keys-1 {
		t.Errorf("only %d writers are named", len(named))
	}
}
