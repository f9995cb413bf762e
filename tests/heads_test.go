package tests

import (
	"math/rand"
	"slices"
	"testing"

	"loop.example/feedswarm/impl"
)

// headSecrets are the smallest and the greatest secrets, those of the smallest and the greatest public key, and others.
var headSecrets = []int{1, 2, 7, 199, 200, 399, 500, 598, impl.Keys - 2, impl.Keys - 1}

// madeHead is a head with what it was made of.
type madeHead struct {
	secret int
	leaves []int
	head   impl.Head
}

// madeHeads returns heads of leaves of every valid number with every secret of a list.
func madeHeads(t *testing.T, secrets []int) []madeHead {
	t.Helper()
	made := []madeHead{}
	for _, leaves := range treeLists() {
		for _, secret := range secrets {
			h, ok := impl.HeadMake(secret, leaves)
			if !ok {
				t.Fatalf("HeadMake of %d and %v fails", secret, leaves)
			}
			made = append(made, madeHead{secret, leaves, h})
		}
	}
	return made
}

// plainMessage returns the message of a length and a digest by the document's rule, outside of the program.
func plainMessage(length int, digest int) int {
	return plainPair(length, digest) + 1
}

// plainSign returns the only signature of the owner of a public key, whose secret is found by trying all of them.
func plainSign(public int, length int, digest int) int {
	secret := 1
	for secret*5%997 != public {
		secret++
	}
	return secret * plainMessage(length, digest) % 997
}

func TestHeadConstants(t *testing.T) {
	if impl.Keys != 997 || impl.KeyBase != 5 {
		t.Errorf("Keys is %d, KeyBase is %d", impl.Keys, impl.KeyBase)
	}
}

func TestHeadPublicValues(t *testing.T) {
	for _, c := range []struct{ secret, want int }{
		{1, 5}, {2, 10}, {7, 35}, {199, 995}, {200, 3}, {399, 1}, {598, 996}, {798, 2}, {996, 992},
	} {
		if got := impl.HeadPublic(c.secret); got != c.want {
			t.Errorf("HeadPublic(%d) is %d, not %d", c.secret, got, c.want)
		}
	}
}

// The values are computed from the document's rules outside of the program.
func TestHeadMakeValues(t *testing.T) {
	first, last := slices.Repeat([]int{0}, impl.MaxBlocks), slices.Repeat([]int{impl.Digests - 1}, impl.MaxBlocks)
	for _, c := range []struct {
		secret int
		leaves []int
		want   impl.Head
	}{
		{1, nil, impl.Head{Length: 0, Digest: 0, Sign: 6}},
		{7, nil, impl.Head{Length: 0, Digest: 0, Sign: 42}},
		{996, nil, impl.Head{Length: 0, Digest: 0, Sign: 991}},
		{1, []int{0}, impl.Head{Length: 1, Digest: 36, Sign: 649}},
		{996, []int{0}, impl.Head{Length: 1, Digest: 36, Sign: 348}},
		{7, []int{990}, impl.Head{Length: 1, Digest: 19, Sign: 526}},
		{996, []int{990}, impl.Head{Length: 1, Digest: 19, Sign: 637}},
		{7, []int{1, 2, 3}, impl.Head{Length: 3, Digest: 344, Sign: 7}},
		{500, treeLeaves(15), impl.Head{Length: 15, Digest: 393, Sign: 821}},
		{1, treeLeaves(16), impl.Head{Length: 16, Digest: 599, Sign: 775}},
		{996, treeLeaves(16), impl.Head{Length: 16, Digest: 599, Sign: 222}},
		{1, first, impl.Head{Length: 16, Digest: 18, Sign: 808}},
		{996, last, impl.Head{Length: 16, Digest: 379, Sign: 989}},
	} {
		if got, ok := impl.HeadMake(c.secret, c.leaves); !ok || got != c.want {
			t.Errorf("HeadMake of %d and %v is %v, %v, not %v", c.secret, c.leaves, got, ok, c.want)
		}
	}
}

// These leaves have the first and the last digest, the smallest and the greatest message, and signatures at their limits.
func TestHeadMakeValuesAtTheLimits(t *testing.T) {
	for _, c := range []struct {
		secret, leaf int
		want         impl.Head
	}{
		{485, 814, impl.Head{Length: 1, Digest: 0, Sign: 996}},
		{512, 814, impl.Head{Length: 1, Digest: 0, Sign: 1}},
		{349, 231, impl.Head{Length: 1, Digest: 990, Sign: 1}},
		{648, 231, impl.Head{Length: 1, Digest: 990, Sign: 996}},
		{1, 687, impl.Head{Length: 1, Digest: 814, Sign: 1}},
		{996, 687, impl.Head{Length: 1, Digest: 814, Sign: 996}},
		{1, 711, impl.Head{Length: 1, Digest: 231, Sign: 991}},
		{996, 711, impl.Head{Length: 1, Digest: 231, Sign: 6}},
		{166, 711, impl.Head{Length: 1, Digest: 231, Sign: 1}},
		{831, 711, impl.Head{Length: 1, Digest: 231, Sign: 996}},
	} {
		got, ok := impl.HeadMake(c.secret, []int{c.leaf})
		if !ok || got != c.want {
			t.Errorf("HeadMake of %d and the leaf %d is %v, %v, not %v", c.secret, c.leaf, got, ok, c.want)
		}
		if !impl.HeadCheck(c.secret*5%997, c.want) {
			t.Errorf("HeadCheck rejects %v of the secret %d", c.want, c.secret)
		}
	}
}

func TestPromise25MadeHeadIsAccepted(t *testing.T) {
	secrets := []int{}
	for secret := 1; secret < impl.Keys; secret++ {
		secrets = append(secrets, secret)
	}
	for _, made := range madeHeads(t, secrets) {
		if !impl.HeadCheck(impl.HeadPublic(made.secret), made.head) {
			t.Fatalf("the head %v of %d and %v is rejected", made.head, made.secret, made.leaves)
		}
		if made.head.Length != len(made.leaves) || made.head.Digest != impl.TreeDigest(made.leaves) {
			t.Fatalf("the head of %d and %v is %v", made.secret, made.leaves, made.head)
		}
		if want := made.secret * plainMessage(made.head.Length, made.head.Digest) % 997; made.head.Sign != want {
			t.Fatalf("the signature of %d for %v is %d, not %d", made.secret, made.leaves, made.head.Sign, want)
		}
	}
}

func TestPromise26OtherPublicKeyIsRejected(t *testing.T) {
	for _, made := range madeHeads(t, headSecrets) {
		own := impl.HeadPublic(made.secret)
		for public := -impl.Keys; public <= 3*impl.Keys; public++ {
			if impl.HeadCheck(public, made.head) != (public == own) {
				t.Fatalf("the head %v of %d is judged wrongly with the public key %d", made.head, made.secret, public)
			}
		}
	}
}

func TestPromise27OtherDigestIsRejected(t *testing.T) {
	for _, made := range madeHeads(t, headSecrets) {
		public := impl.HeadPublic(made.secret)
		for digest := -impl.Digests; digest <= 3*impl.Digests; digest++ {
			h := made.head
			h.Digest = digest
			if impl.HeadCheck(public, h) != (digest == made.head.Digest) {
				t.Fatalf("the head %v of %d is judged wrongly with the digest %d", made.head, made.secret, digest)
			}
		}
	}
}

func TestPromise27OtherSignatureIsRejected(t *testing.T) {
	for _, made := range madeHeads(t, headSecrets) {
		public := impl.HeadPublic(made.secret)
		for sign := -impl.Keys; sign <= 3*impl.Keys; sign++ {
			h := made.head
			h.Sign = sign
			if impl.HeadCheck(public, h) != (sign == made.head.Sign) {
				t.Fatalf("the head %v of %d is judged wrongly with the signature %d", made.head, made.secret, sign)
			}
		}
	}
}

func TestPromise28OtherLengthIsRejected(t *testing.T) {
	for _, made := range madeHeads(t, headSecrets) {
		public := impl.HeadPublic(made.secret)
		for length := -impl.Digests; length <= 3*impl.Digests; length++ {
			h := made.head
			h.Length = length
			if impl.HeadCheck(public, h) != (length == made.head.Length) {
				t.Fatalf("the head %v of %d is judged wrongly with the length %d", made.head, made.secret, length)
			}
		}
	}
}

// A head need not be made of leaves that the checker could know: each length and digest has one signature of each owner.
func TestPromises27And28OfAnyAcceptedHead(t *testing.T) {
	random := rand.New(rand.NewSource(5))
	for length := 0; length <= impl.MaxBlocks; length++ {
		for _, digest := range []int{0, 1, random.Intn(impl.Digests), random.Intn(impl.Digests), impl.Digests - 1} {
			for _, public := range []int{1, 2, 5, 1 + random.Intn(impl.Keys-1), impl.Keys - 1} {
				right := plainSign(public, length, digest)
				for sign := 1; sign < impl.Keys; sign++ {
					h := impl.Head{Length: length, Digest: digest, Sign: sign}
					if impl.HeadCheck(public, h) != (sign == right) {
						t.Fatalf("%v is judged wrongly with the public key %d, whose signature is %d", h, public, right)
					}
				}
				for other := 0; other < impl.Digests; other++ {
					if impl.HeadCheck(public, impl.Head{Length: length, Digest: other, Sign: right}) != (other == digest) {
						t.Fatalf("public key %d, length %d, signature %d: the digest %d is judged wrongly", public, length, right, other)
					}
				}
				for other := 0; other <= impl.MaxBlocks; other++ {
					if impl.HeadCheck(public, impl.Head{Length: other, Digest: digest, Sign: right}) != (other == length) {
						t.Fatalf("public key %d, digest %d, signature %d: the length %d is judged wrongly", public, digest, right, other)
					}
				}
			}
		}
	}
}

func TestHeadCheckOfTheFirstAndLastSignature(t *testing.T) {
	for length := 0; length <= impl.MaxBlocks; length++ {
		for digest := 0; digest < impl.Digests; digest++ {
			message := plainMessage(length, digest)
			for _, sign := range []int{1, impl.Keys - 1} {
				accepted := 0
				for public := 1; public < impl.Keys; public++ {
					if !impl.HeadCheck(public, impl.Head{Length: length, Digest: digest, Sign: sign}) {
						continue
					}
					accepted++
					if public*message%997 != sign*5%997 {
						t.Fatalf("length %d, digest %d, signature %d are accepted with the public key %d", length, digest, sign, public)
					}
				}
				if accepted != 1 {
					t.Fatalf("length %d, digest %d, signature %d are accepted with %d public keys", length, digest, sign, accepted)
				}
			}
		}
	}
}

func TestPromise29PublicKeysDiffer(t *testing.T) {
	var taken [impl.Keys]bool
	for secret := 1; secret < impl.Keys; secret++ {
		public := impl.HeadPublic(secret)
		if public != secret*5%997 {
			t.Errorf("HeadPublic(%d) is %d", secret, public)
		}
		if public < 1 || public >= impl.Keys || taken[public] {
			t.Fatalf("HeadPublic(%d) is %d, which is no public key or that of another secret", secret, public)
		}
		taken[public] = true
	}
	for _, secret := range notKeys() {
		if got := impl.HeadPublic(secret); got != 0 {
			t.Errorf("HeadPublic(%d) is %d", secret, got)
		}
	}
}

func TestPromise30NoLeaves(t *testing.T) {
	for secret := 1; secret < impl.Keys; secret++ {
		for _, leaves := range [][]int{nil, {}} {
			want := impl.Head{Length: 0, Digest: 0, Sign: secret * 6 % 997}
			h, ok := impl.HeadMake(secret, leaves)
			if !ok || h != want {
				t.Fatalf("HeadMake of %d and no leaves is %v, %v, not %v", secret, h, ok, want)
			}
			if !impl.HeadCheck(impl.HeadPublic(secret), h) {
				t.Fatalf("the head %v of %d and no leaves is rejected", h, secret)
			}
		}
	}
}

func TestPromise31OtherLeafOtherHead(t *testing.T) {
	for which, leaves := range treeLists() {
		secret := headSecrets[which%len(headSecrets)]
		h, _ := impl.HeadMake(secret, leaves)
		for i := range leaves {
			for leaf := 0; leaf < impl.Digests; leaf++ {
				other, ok := impl.HeadMake(secret, withMember(leaves, i, leaf))
				same := leaf == leaves[i]
				if !ok || (other.Digest == h.Digest) != same || (other.Sign == h.Sign) != same {
					t.Fatalf("the head of %d and %v is %v, and with %d at %d it is %v, %v", secret, leaves, h, leaf, i, other, ok)
				}
			}
		}
	}
}
