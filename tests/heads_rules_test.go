package tests

import (
	"math"
	"slices"
	"testing"

	"loop.example/feedswarm/impl"
)

// notKeys returns numbers on both sides of the range of keys: next to it, with the remainders of all keys, and far from it.
func notKeys() []int {
	list := []int{0, impl.Keys, math.MinInt32, math.MaxInt32}
	for by := range impl.Keys {
		list = append(list, -1-by, -impl.Keys-by, impl.Keys+by, 2*impl.Keys+by, math.MinInt+by, math.MaxInt-by)
		// Five times such a number wraps around near to the product of a key.
		list = append(list, math.MaxInt/impl.KeyBase+by, math.MinInt/impl.KeyBase-by)
	}
	return list
}

// signsAround are all signatures, and numbers with the same remainders on both sides of them.
func signsAround() []int {
	list := []int{}
	for sign := -impl.Keys; sign <= 2*impl.Keys; sign++ {
		list = append(list, sign)
	}
	return list
}

func TestHeadMakeOfInvalidSecrets(t *testing.T) {
	for _, secret := range notKeys() {
		for n := 0; n <= impl.MaxBlocks; n++ {
			if h, ok := impl.HeadMake(secret, treeLeaves(n)); ok || h != (impl.Head{}) {
				t.Fatalf("HeadMake of %d and %d leaves is %v, %v", secret, n, h, ok)
			}
		}
	}
}

func TestHeadMakeOfInvalidLeaves(t *testing.T) {
	for _, leaves := range invalidLeaves() {
		for _, secret := range append([]int{0, -1, impl.Keys, math.MinInt, math.MaxInt}, headSecrets...) {
			if h, ok := impl.HeadMake(secret, leaves); ok || h != (impl.Head{}) {
				t.Fatalf("HeadMake of %d and %v is %v, %v", secret, leaves, h, ok)
			}
		}
	}
}

// Heads and signatures are right but for the public key, which has the remainder of the right one or is far from it.
func TestHeadCheckOfInvalidPublicKeys(t *testing.T) {
	for _, made := range madeHeads(t, []int{1, 7, impl.Keys - 1}) {
		for _, public := range notKeys() {
			if impl.HeadCheck(public, made.head) {
				t.Fatalf("the head %v is accepted with the public key %d", made.head, public)
			}
		}
	}
}

func TestHeadCheckOfInvalidSignatures(t *testing.T) {
	for _, made := range madeHeads(t, []int{1, 7, impl.Keys - 1}) {
		public := impl.HeadPublic(made.secret)
		for _, sign := range notKeys() {
			h := made.head
			h.Sign = sign
			if impl.HeadCheck(public, h) {
				t.Fatalf("the head %v is accepted with the public key %d", h, public)
			}
		}
	}
}

// A public key and a signature with the remainder 0 would fit together if they were not refused.
func TestHeadCheckOfZeroKeys(t *testing.T) {
	zeros := []int{0, impl.Keys, -impl.Keys, 2 * impl.Keys, -2 * impl.Keys, 1000 * impl.Keys}
	for length := 0; length <= impl.MaxBlocks; length++ {
		for digest := 0; digest < impl.Digests; digest++ {
			for _, public := range zeros {
				for _, sign := range zeros {
					if h := (impl.Head{Length: length, Digest: digest, Sign: sign}); impl.HeadCheck(public, h) {
						t.Fatalf("%v is accepted with the public key %d", h, public)
					}
				}
			}
		}
	}
}

func TestHeadCheckOfTheZeroHead(t *testing.T) {
	for public := -impl.Keys; public <= 2*impl.Keys; public++ {
		if impl.HeadCheck(public, impl.Head{}) {
			t.Fatalf("the zero head is accepted with the public key %d", public)
		}
	}
}

// Every signature is tried, so that one of them would be right if the length were not refused.
func TestHeadCheckOfInvalidLengths(t *testing.T) {
	lengths := slices.Clone(badNumbers)
	for by := 1; by <= impl.Digests; by++ {
		lengths = append(lengths, -by, impl.MaxBlocks+by)
	}
	signs := signsAround()
	for _, length := range lengths {
		for _, digest := range []int{0, 344, impl.Digests - 1} {
			for _, public := range []int{1, 35, impl.Keys - 1} {
				for _, sign := range signs {
					if h := (impl.Head{Length: length, Digest: digest, Sign: sign}); impl.HeadCheck(public, h) {
						t.Fatalf("%v is accepted with the public key %d", h, public)
					}
				}
			}
		}
	}
}

func TestHeadCheckOfInvalidDigests(t *testing.T) {
	digests := slices.Clone(notDigests)
	for by := range impl.Digests {
		digests = append(digests, -1-by, impl.Digests+by)
	}
	signs := signsAround()
	for _, digest := range digests {
		for _, length := range []int{0, 1, impl.MaxBlocks} {
			for _, public := range []int{1, 35, impl.Keys - 1} {
				for _, sign := range signs {
					if h := (impl.Head{Length: length, Digest: digest, Sign: sign}); impl.HeadCheck(public, h) {
						t.Fatalf("%v is accepted with the public key %d", h, public)
					}
				}
			}
		}
	}
}

func TestHeadCheckOfExtremeNumbersInEachField(t *testing.T) {
	extremes := []int{math.MinInt, math.MinInt + 1, math.MinInt32, math.MaxInt32, math.MaxInt - 1, math.MaxInt}
	for _, made := range madeHeads(t, headSecrets) {
		public := impl.HeadPublic(made.secret)
		for _, number := range extremes {
			asLength, asDigest, asSign := made.head, made.head, made.head
			asLength.Length, asDigest.Digest, asSign.Sign = number, number, number
			all := impl.Head{Length: number, Digest: number, Sign: number}
			for _, h := range []impl.Head{asLength, asDigest, asSign, all} {
				if impl.HeadCheck(public, h) || impl.HeadCheck(number, h) {
					t.Fatalf("%v is accepted with the public key %d or %d", h, public, number)
				}
			}
		}
	}
}

func TestHeadsOfNilAndEmptyAreEqual(t *testing.T) {
	for _, secret := range append(notKeys(), headSecrets...) {
		one, oneOk := impl.HeadMake(secret, nil)
		two, twoOk := impl.HeadMake(secret, []int{})
		if one != two || oneOk != twoOk {
			t.Errorf("HeadMake of %d and no leaves is %v, %v or %v, %v", secret, one, oneOk, two, twoOk)
		}
	}
}

func TestHeadMakeKeepsItsArguments(t *testing.T) {
	for _, list := range append(treeLists(), treeLeaves(17), []int{-1}, []int{impl.Digests, 0}) {
		for _, secret := range []int{0, 1, 7, impl.Keys - 1, impl.Keys} {
			leaves, whole := roomy(list)
			before := slices.Clone(whole)
			first, firstOk := impl.HeadMake(secret, leaves)
			if !slices.Equal(whole, before) {
				t.Fatalf("the leaves %v are changed to %v", before, whole)
			}
			if again, ok := impl.HeadMake(secret, leaves); again != first || ok != firstOk {
				t.Fatalf("HeadMake of %d and %v is %v, and %v in a later call", secret, list, first, again)
			}
		}
	}
}
