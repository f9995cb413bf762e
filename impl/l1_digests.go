package impl

// Digests is the number of digests, which are numbered from 0.
const Digests = 991

// MaxText is the largest number of bytes of a block.
const MaxText = 8

// firstDigest is where the digest of every text begins, so that it is the digest of the empty one.
const firstDigest digest = 11

// digest is a number that is a digest if it is in the range 0 to Digests-1.
type digest int

// valid reports whether d is a digest. Callers check it before they compute, so that no product overflows.
func (d digest) valid() bool {
	return d >= 0 && d < Digests
}

// withByte returns the digest of a text with digest d and a further byte.
func (d digest) withByte(b byte) digest {
	return (d*257 + digest(b) + 1) % Digests
}

// with returns the digest of the pair of d and e. The factors differ, so that the order of the pair counts.
func (d digest) with(e digest) digest {
	return (31*d + 17*e + 5) % Digests
}

// DigestText returns the digest of a block, or -1 if it has more than MaxText bytes.
func DigestText(s string) int {
	if len(s) > MaxText {
		return -1
	}
	d := firstDigest
	// By index, because a range over a string would give runes instead of bytes.
	for i := range len(s) {
		d = d.withByte(s[i])
	}
	return int(d)
}

// DigestPair returns the digest of two digests, or -1 if one of both is not a digest.
func DigestPair(a int, b int) int {
	first, second := digest(a), digest(b)
	if !first.valid() || !second.valid() {
		return -1
	}
	return int(first.with(second))
}
