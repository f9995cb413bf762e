package tests

import (
	"slices"
	"testing"

	"loop.example/feedswarm/impl"
)

// forkLengths are the smallest and the greatest length of a head, and others.
var forkLengths = []int{0, 1, 2, 7, 8, impl.MaxBlocks - 1, impl.MaxBlocks}

// forkDigests are pairs of different digests: the smallest and the greatest one, neighbours, and others.
var forkDigests = [][2]int{{0, 1}, {0, impl.Digests - 1}, {impl.Digests - 1, impl.Digests - 2}, {500, 344}, {16, 17}}

// forkOf returns the proof that a writer has signed two digests of one length.
func forkOf(secret int, length int, a int, b int) impl.Fork {
	return impl.Fork{Public: secret * 5 % 997, A: signedBy(secret, length, a), B: signedBy(secret, length, b)}
}

// rightFork is a right proof with the secret of its writer.
type rightFork struct {
	secret int
	fork   impl.Fork
}

// rightForks returns right proofs of several writers, of heads of several lengths.
func rightForks() []rightFork {
	forks := []rightFork{}
	for _, secret := range headSecrets {
		for _, length := range forkLengths {
			for _, pair := range forkDigests {
				forks = append(forks, rightFork{secret, forkOf(secret, length, pair[0], pair[1])})
			}
		}
	}
	return forks
}

// turned returns a proof with its heads in the other order.
func turned(x impl.Fork) impl.Fork {
	return impl.Fork{Public: x.Public, A: x.B, B: x.A}
}

// otherSecret returns the secret of another writer.
func otherSecret(secret int) int {
	return secret%(impl.Keys-1) + 1
}

// unsignedForks returns proofs in which one head or both are not signed by the writer.
func unsignedForks(right rightFork) []impl.Fork {
	forks := []impl.Fork{}
	x := right.fork
	first := unsignedHeads(right.secret, x.A.Length, x.A.Digest)
	second := unsignedHeads(right.secret, x.B.Length, x.B.Digest)
	for place := range first {
		forks = append(forks, impl.Fork{Public: x.Public, A: first[place], B: x.B})
		forks = append(forks, impl.Fork{Public: x.Public, A: x.A, B: second[place]})
		forks = append(forks, impl.Fork{Public: x.Public, A: first[place], B: second[place]})
	}
	return forks
}

// strangeForks returns proofs in which one head or both are signed by another writer, who may have forked indeed.
func strangeForks(right rightFork) []impl.Fork {
	x, other := right.fork, forkOf(otherSecret(right.secret), right.fork.A.Length, right.fork.A.Digest, right.fork.B.Digest)
	return []impl.Fork{
		{Public: x.Public, A: other.A, B: x.B},
		{Public: x.Public, A: x.A, B: other.B},
		{Public: x.Public, A: other.A, B: other.B},
		{Public: other.Public, A: x.A, B: x.B},
		{Public: other.Public, A: other.A, B: x.B},
		{Public: other.Public, A: x.A, B: other.B},
	}
}

// outsideForks returns proofs that fulfil the equation of signatures, but have a number that is not in its range.
func outsideForks(right rightFork) []impl.Fork {
	forks := []impl.Fork{}
	secret, x := right.secret, right.fork
	for _, length := range []int{-1, -2, impl.MaxBlocks + 1, impl.MaxBlocks + 2, impl.Digests - 1, impl.Digests, x.A.Length + impl.Digests, x.A.Length - impl.Digests} {
		forks = append(forks, forkOf(secret, length, x.A.Digest, x.B.Digest))
		forks = append(forks, impl.Fork{Public: x.Public, A: signedBy(secret, length, x.A.Digest), B: x.B}, impl.Fork{Public: x.Public, A: x.A, B: signedBy(secret, length, x.B.Digest)})
	}
	// A digest plus or minus Digests has the same message, so the signature of the digest fits.
	for _, by := range []int{impl.Digests, -impl.Digests, 2 * impl.Digests} {
		outside := x
		outside.A.Digest += by
		forks = append(forks, outside, turned(outside), impl.Fork{Public: x.Public, A: x.A, B: outside.A}, impl.Fork{Public: x.Public, A: outside.A, B: x.A})
		outside.B.Digest += by
		forks = append(forks, outside)
	}
	for _, by := range []int{impl.Keys, -impl.Keys, 2 * impl.Keys} {
		public, sign := x, x
		public.Public += by
		sign.B.Sign += by
		forks = append(forks, public, sign, turned(sign))
		sign.A.Sign += by
		forks = append(forks, sign)
	}
	return forks
}

// harmlessForks returns proofs whose heads are signed, but do not contradict each other.
func harmlessForks(right rightFork) []impl.Fork {
	x := right.fork
	forks := []impl.Fork{{Public: x.Public, A: x.A, B: x.A}, {Public: x.Public, A: x.B, B: x.B}}
	for length := range impl.MaxBlocks + 1 {
		if length == x.A.Length {
			continue
		}
		// The digests may be different or equal.
		forks = append(forks, impl.Fork{Public: x.Public, A: x.A, B: signedBy(right.secret, length, x.B.Digest)})
		forks = append(forks, impl.Fork{Public: x.Public, A: signedBy(right.secret, length, x.A.Digest), B: x.B})
		forks = append(forks, impl.Fork{Public: x.Public, A: x.A, B: signedBy(right.secret, length, x.A.Digest)})
	}
	return forks
}

// wrongForks returns wrong proofs that are made from a right one.
func wrongForks(right rightFork) []impl.Fork {
	return slices.Concat(unsignedForks(right), strangeForks(right), outsideForks(right), harmlessForks(right))
}

// withDigest returns a feed whose head has a digest, and none of its blocks.
func withDigest(secret int, length int, digest int) impl.Feed {
	h := signedBy(secret, length, digest)
	return impl.Feed{Public: secret * 5 % 997, Head: h, Blocks: make([]string, length), Have: make([]bool, length)}
}

// forkedFeed returns a valid feed whose head has the length of that of another one and another digest.
func forkedFeed(read readFeed) impl.Feed {
	return withDigest(read.secret, read.feed.Head.Length, (read.feed.Head.Digest+1)%impl.Digests)
}

// checkFork fails the test if ForkCheck does not judge a proof in this way.
func checkFork(t *testing.T, x impl.Fork, want bool) {
	t.Helper()
	if got := impl.ForkCheck(x); got != want {
		t.Fatalf("ForkCheck of %#v is %#v", x, got)
	}
}

// checkMeet fails the test if ForkMeet does not return this proof and this result.
func checkMeet(t *testing.T, f impl.Feed, g impl.Feed, want impl.Fork, wantOk bool) {
	t.Helper()
	if got, ok := impl.ForkMeet(f, g); ok != wantOk || got != want {
		t.Fatalf("ForkMeet of %#v and %#v is %#v, %#v, not %#v, %#v", f, g, got, ok, want, wantOk)
	}
}

// checkNoFork fails the test if ForkMeet succeeds for two feeds in one of both orders.
func checkNoFork(t *testing.T, f impl.Feed, g impl.Feed) {
	t.Helper()
	checkMeet(t, f, g, impl.Fork{}, false)
	checkMeet(t, g, f, impl.Fork{}, false)
}

// checkNamed fails the test if ForkNamed does not return these public keys.
func checkNamed(t *testing.T, list []impl.Fork, want []int) {
	t.Helper()
	if got := impl.ForkNamed(list); !slices.Equal(got, want) {
		t.Fatalf("ForkNamed of %#v is %#v, not %#v", list, got, want)
	}
}
