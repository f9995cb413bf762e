package tests

import (
	"math"
	"math/rand"
	"slices"
	"testing"

	"loop.example/feedswarm/impl"
)

// plainSigned judges a head by the document's rule, outside of the program.
func plainSigned(public int, h impl.Head) bool {
	if public < 1 || public > 996 || h.Length < 0 || h.Length > 16 || h.Digest < 0 || h.Digest > 990 || h.Sign < 1 || h.Sign > 996 {
		return false
	}
	return h.Sign*5%997 == public*plainMessage(h.Length, h.Digest)%997
}

// plainRight judges a proof by the document's rule.
func plainRight(x impl.Fork) bool {
	return plainSigned(x.Public, x.A) && plainSigned(x.Public, x.B) && x.A.Length == x.B.Length && x.A.Digest != x.B.Digest
}

// plainMeet compares two feeds by the document's rule.
func plainMeet(f impl.Feed, g impl.Feed) (impl.Fork, bool) {
	x := impl.Fork{Public: f.Public, A: f.Head, B: g.Head}
	if !plainFeedValid(f) || !plainFeedValid(g) || f.Public != g.Public || !plainRight(x) {
		return impl.Fork{}, false
	}
	return x, true
}

// plainNamed returns the named public keys by the document's rule: each key is searched for in all proofs.
func plainNamed(list []impl.Fork) []int {
	named := []int{}
	for public := range 997 {
		if slices.ContainsFunc(list, func(x impl.Fork) bool { return x.Public == public && plainRight(x) }) {
			named = append(named, public)
		}
	}
	return named
}

func TestForkCheckFollowsItsRules(t *testing.T) {
	for _, right := range rightForks() {
		for _, x := range append(wrongForks(right), right.fork) {
			checkFork(t, x, plainRight(x))
			checkFork(t, turned(x), plainRight(x))
		}
	}
}

// A proof is right only if all its numbers are; the numbers of this test are near to right ones.
func TestForkCheckOfRandomNumbers(t *testing.T) {
	random := rand.New(rand.NewSource(19))
	accepted := 0
	for range 300000 {
		secret := 1 + random.Intn(impl.Keys-1)
		x := forkOf(secret, random.Intn(impl.MaxBlocks+1), random.Intn(impl.Digests), random.Intn(impl.Digests))
		for _, number := range []*int{&x.Public, &x.A.Length, &x.A.Digest, &x.A.Sign, &x.B.Length, &x.B.Digest, &x.B.Sign} {
			if random.Intn(12) == 0 {
				*number += random.Intn(5) - 2
			}
		}
		checkFork(t, x, plainRight(x))
		if plainRight(x) {
			accepted++
		}
	}
	if accepted < 10000 || accepted > 290000 {
		t.Errorf("%d proofs are accepted", accepted)
	}
}

// The heads are signed by the owner of the remainder of each number, or by one near to it.
func TestForkCheckOfInvalidPublicKeys(t *testing.T) {
	for _, secret := range []int{1, 7, 399, 598} {
		for _, length := range []int{0, 3, impl.MaxBlocks} {
			x := forkOf(secret, length, 5, 6)
			for _, public := range notKeys() {
				wrong := impl.Fork{Public: public, A: x.A, B: x.B}
				checkFork(t, wrong, false)
				checkNamed(t, []impl.Fork{wrong, wrong}, nil)
				checkNamed(t, []impl.Fork{wrong, x, wrong}, []int{x.Public})
			}
		}
	}
	// With the public key 0, the signature 0 would fulfil the equation for each message.
	for _, sign := range []int{0, impl.Keys, -impl.Keys} {
		h, other := impl.Head{Length: 1, Digest: 5, Sign: sign}, impl.Head{Length: 1, Digest: 6, Sign: sign}
		checkNamed(t, []impl.Fork{{Public: 0, A: h, B: other}, {Public: impl.Keys, A: h, B: other}, {Public: 35, A: h, B: other}}, nil)
	}
}

// All signatures are tried, so that one of them fulfils the equation.
func TestForkCheckOfInvalidLengthsAndDigests(t *testing.T) {
	right := forkOf(7, 3, 5, 6)
	heads := []impl.Head{}
	for sign := range impl.Keys {
		for _, length := range []int{-1, -impl.Digests + 3, impl.MaxBlocks + 1, impl.Digests + 3} {
			heads = append(heads, impl.Head{Length: length, Digest: 6, Sign: sign})
		}
		for _, digest := range []int{-1, 6 - impl.Digests, impl.Digests, 6 + impl.Digests} {
			heads = append(heads, impl.Head{Length: 3, Digest: digest, Sign: sign})
		}
	}
	for _, h := range heads {
		other := h
		other.Digest = (h.Digest + 1) % impl.Digests
		for _, x := range []impl.Fork{{Public: 35, A: right.A, B: h}, {Public: 35, A: h, B: other}, {Public: 35, A: h, B: h}} {
			checkFork(t, x, false)
			checkFork(t, turned(x), false)
		}
	}
}

func TestForkCheckOfExtremeNumbers(t *testing.T) {
	extremes := []int{math.MinInt, math.MinInt + 1, math.MinInt32, -1, math.MaxInt32, math.MaxInt - 1, math.MaxInt}
	for _, right := range rightForks() {
		for _, number := range extremes {
			for place := range 7 {
				x := right.fork
				*[]*int{&x.Public, &x.A.Length, &x.A.Digest, &x.A.Sign, &x.B.Length, &x.B.Digest, &x.B.Sign}[place] = number
				checkFork(t, x, false)
			}
			h := impl.Head{Length: number, Digest: number, Sign: number}
			checkFork(t, impl.Fork{Public: number, A: h, B: h}, false)
			checkFork(t, impl.Fork{Public: number, A: right.fork.A, B: h}, false)
		}
	}
}

// Several conditions hold at once: each of them is enough.
func TestForkCheckOfSeveralConditions(t *testing.T) {
	for _, right := range rightForks() {
		x := right.fork
		unsigned := x
		unsigned.A.Sign, unsigned.B.Sign = 0, 0
		longer := impl.Head{Length: (x.B.Length + 1) % (impl.MaxBlocks + 1), Digest: x.A.Digest}
		for _, y := range []impl.Fork{
			unsigned,
			{Public: x.Public, A: unsigned.A, B: unsigned.A},
			{Public: x.Public, A: x.A, B: longer},
			{Public: x.Public, A: unsigned.A, B: longer},
			{Public: 0, A: unsigned.A, B: longer},
			{Public: 0, A: x.A, B: x.A},
			{Public: impl.Keys, A: x.A, B: longer},
		} {
			checkFork(t, y, false)
			checkFork(t, turned(y), false)
			checkNamed(t, []impl.Fork{y, turned(y)}, nil)
		}
	}
}

// The heads of most of these feeds would prove a fork, so that only the invalid feed is a reason to fail.
func TestForkMeetOfInvalidFeeds(t *testing.T) {
	proofs := 0
	for _, read := range readFeeds() {
		valid := forkedFeed(read)
		last := impl.Feed{}
		for _, broken := range slices.Concat(brokenNumbers(read), brokenNumbersOfMembers(read), brokenTexts(read)) {
			if impl.FeedValid(broken) {
				t.Fatalf("%#v is valid", broken)
			}
			if plainRight(impl.Fork{Public: broken.Public, A: broken.Head, B: valid.Head}) {
				proofs++
			}
			checkNoFork(t, broken, valid)
			checkNoFork(t, broken, read.feed)
			checkNoFork(t, broken, broken)
			checkNoFork(t, broken, last)
			last = broken
		}
	}
	if proofs < 1000 {
		t.Errorf("only %d heads of invalid feeds prove a fork", proofs)
	}
}

// Both feeds are invalid, although their heads prove a fork.
func TestForkMeetOfTwoInvalidFeeds(t *testing.T) {
	for _, length := range []int{0, 1, 5, impl.MaxBlocks} {
		first, second := withDigest(7, length, 5), withDigest(7, length, 6)
		checkMeet(t, first, second, forkOf(7, length, 5, 6), true)
		broken := []func(f impl.Feed) impl.Feed{
			func(f impl.Feed) impl.Feed { f.Blocks = append(f.Blocks, ""); return f },
			func(f impl.Feed) impl.Feed { f.Have = append(f.Have, false); return f },
			func(f impl.Feed) impl.Feed {
				f.Blocks, f.Have = append(f.Blocks, ""), append(f.Have, false)
				return f
			},
		}
		if length > 0 {
			broken = append(broken,
				func(f impl.Feed) impl.Feed { f.Blocks = nil; return f },
				func(f impl.Feed) impl.Feed { f.Have = nil; return f },
				func(f impl.Feed) impl.Feed { f.Blocks[0] = "a"; return f },
				func(f impl.Feed) impl.Feed { return withText(f, length-1, "toolongxx") },
				func(f impl.Feed) impl.Feed {
					f.Have = slices.Repeat([]bool{true}, length)
					return f
				})
		}
		for _, one := range broken {
			for _, two := range broken {
				f, g := one(cloneFeed(first)), two(cloneFeed(second))
				checkNoFork(t, f, g)
				checkNoFork(t, f, second)
				checkNoFork(t, first, g)
			}
		}
	}
}

// The second feed has forked, too, but its writer is another one.
func TestForkMeetOfTwoWriters(t *testing.T) {
	for _, read := range readFeeds() {
		n, last := read.feed.Head.Length, read.feed.Head.Digest
		for _, secret := range []int{otherSecret(read.secret), impl.Keys - read.secret} {
			for _, digest := range []int{last, (last + 1) % impl.Digests} {
				checkNoFork(t, read.feed, withDigest(secret, n, digest))
			}
			checkNoFork(t, read.feed, newFeed(secret))
			// A head that is signed by the other writer makes the feed invalid.
			strange := forkedFeed(read)
			strange.Head = signedBy(secret, n, (last+1)%impl.Digests)
			checkNoFork(t, read.feed, strange)
			strange = forkedFeed(read)
			strange.Public = secret * 5 % 997
			checkNoFork(t, read.feed, strange)
		}
	}
}

func TestForkMeetFollowsItsRules(t *testing.T) {
	random := rand.New(rand.NewSource(20))
	feeds, met := mixedFeeds(random), 0
	for _, read := range feeds {
		others := []impl.Feed{forkedFeed(readFeed{read.secret, nil, impl.Feed{Head: impl.Head{Length: len(read.texts), Digest: random.Intn(impl.Digests)}}})}
		for range 10 {
			others = append(others, feeds[random.Intn(len(feeds))].feed)
		}
		for _, other := range others {
			for _, pair := range [][2]impl.Feed{{read.feed, other}, {other, read.feed}} {
				want, ok := plainMeet(pair[0], pair[1])
				checkMeet(t, pair[0], pair[1], want, ok)
				if ok {
					met++
				}
			}
		}
	}
	if met < 1000 {
		t.Errorf("only %d pairs of feeds prove a fork", met)
	}
}

func TestForkNamedFollowsItsRules(t *testing.T) {
	random := rand.New(rand.NewSource(21))
	for many := range 60 {
		for range 5 {
			list := mixedForks(random, many)
			checkNamed(t, list, plainNamed(list))
			slices.Reverse(list)
			checkNamed(t, list, plainNamed(list))
		}
	}
}

// There is no limit of the number of proofs.
func TestForkNamedOfManyProofs(t *testing.T) {
	list := mixedForks(rand.New(rand.NewSource(22)), 200)
	checkNamed(t, slices.Repeat(list, 500), plainNamed(list))
	wrong := slices.DeleteFunc(slices.Clone(list), plainRight)
	checkNamed(t, slices.Repeat(wrong, 500), nil)
}
