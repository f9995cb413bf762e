package tests

import (
	"math"
	"math/rand"
	"strings"
	"testing"

	"loop.example/feedswarm/impl"
)

// digestTexts returns texts of every valid length: of one byte value only, for every value, and mixed ones.
func digestTexts() []string {
	random := rand.New(rand.NewSource(1))
	list := []string{""}
	for length := 1; length <= impl.MaxText; length++ {
		for b := 0; b < 256; b++ {
			list = append(list, strings.Repeat(string([]byte{byte(b)}), length))
		}
		for range 200 {
			text := make([]byte, length)
			for i := range text {
				text[i] = byte(random.Intn(256))
			}
			list = append(list, string(text))
		}
	}
	return list
}

// notDigests are numbers on both sides of the range of digests, near to it and far from it.
var notDigests = []int{
	-1, -2, -990, -991, -992, math.MinInt32, math.MinInt + 1, math.MinInt,
	impl.Digests, impl.Digests + 1, 2 * impl.Digests, math.MaxInt32, math.MaxInt - 1, math.MaxInt,
}

func TestDigestConstants(t *testing.T) {
	if impl.Digests != 991 || impl.MaxText != 8 {
		t.Errorf("Digests is %d, MaxText is %d", impl.Digests, impl.MaxText)
	}
}

// The values are computed from the document's rule outside of the program.
func TestDigestTextValues(t *testing.T) {
	for _, c := range []struct {
		text string
		want int
	}{
		{"", 11},
		{"\x00", (11*257 + 1) % 991},
		{"\xff", (11*257 + 256) % 991},
		{"a", 943},
		{"b", 944},
		{"ab", 646},
		{"ba", 902},
		{"\xc3\xa9", 137},
		{"abcdefgh", 92},
		{"\x00\x00\x00\x00\x00\x00\x00\x00", 92},
		{"\xff\xff\xff\xff\xff\xff\xff\xff", 93},
	} {
		if got := impl.DigestText(c.text); got != c.want {
			t.Errorf("DigestText(%q) is %d, not %d", c.text, got, c.want)
		}
	}
}

func TestDigestPairValues(t *testing.T) {
	for _, c := range []struct{ a, b, want int }{
		{0, 0, 5},
		{1, 2, 70},
		{2, 1, 84},
		{0, 990, 979},
		{990, 0, 965},
		{990, 990, 948},
		{11, 943, 521},
	} {
		if got := impl.DigestPair(c.a, c.b); got != c.want {
			t.Errorf("DigestPair(%d, %d) is %d, not %d", c.a, c.b, got, c.want)
		}
	}
}

func TestDigestTextIsADigest(t *testing.T) {
	for _, text := range digestTexts() {
		if d := impl.DigestText(text); d < 0 || d >= impl.Digests {
			t.Fatalf("DigestText(%q) is %d", text, d)
		}
	}
}

func TestPromise1OneByteDiffers(t *testing.T) {
	for _, text := range digestTexts() {
		d := impl.DigestText(text)
		for i := range len(text) {
			changed := []byte(text)
			for b := 0; b < 256; b++ {
				changed[i] = byte(b)
				if same := byte(b) == text[i]; (impl.DigestText(string(changed)) == d) != same {
					t.Fatalf("%q and %q have the digest %d", text, changed, d)
				}
			}
		}
	}
}

func TestPromise2EmptyAndTooLong(t *testing.T) {
	if d := impl.DigestText(""); d != 11 {
		t.Errorf("DigestText of the empty text is %d", d)
	}
	for b := 0; b < 256; b++ {
		longest := strings.Repeat(string([]byte{byte(b)}), impl.MaxText)
		if d := impl.DigestText(longest); d < 0 || d >= impl.Digests {
			t.Errorf("DigestText(%q) is %d", longest, d)
		}
		if d := impl.DigestText(longest + longest[:1]); d != -1 {
			t.Errorf("DigestText(%q) is %d, with one byte too many", longest+longest[:1], d)
		}
	}
	for length := impl.MaxText + 1; length <= 3000; length++ {
		if d := impl.DigestText(strings.Repeat("x", length)); d != -1 {
			t.Fatalf("DigestText of %d bytes is %d", length, d)
		}
	}
}

// Runes of several bytes tell whether the length is counted in bytes.
func TestPromise2LengthIsInBytes(t *testing.T) {
	if d := impl.DigestText(strings.Repeat("\u00e9", 4)); d < 0 {
		t.Errorf("four runes of two bytes each are refused: %d", d)
	}
	for _, text := range []string{strings.Repeat("\u00e9", 5), "\u20ac\u20ac\u20ac", "1234567\u00e9"} {
		if d := impl.DigestText(text); d != -1 {
			t.Errorf("DigestText(%q) is %d, with %d bytes", text, d, len(text))
		}
	}
}

// The factors have an inverse modulo Digests; so each row and each column of all pairs has every digest once.
func TestPromise3PairDiffersInEachArgument(t *testing.T) {
	for fixed := 0; fixed < impl.Digests; fixed++ {
		var asFirst, asSecond [impl.Digests]bool
		for other := 0; other < impl.Digests; other++ {
			first, second := impl.DigestPair(fixed, other), impl.DigestPair(other, fixed)
			if first < 0 || first >= impl.Digests || asFirst[first] {
				t.Fatalf("DigestPair(%d, %d) is %d, which is no digest or that of another second argument", fixed, other, first)
			}
			if second < 0 || second >= impl.Digests || asSecond[second] {
				t.Fatalf("DigestPair(%d, %d) is %d, which is no digest or that of another first argument", other, fixed, second)
			}
			asFirst[first], asSecond[second] = true, true
		}
	}
}

func TestPairFollowsItsRule(t *testing.T) {
	for a := 0; a < impl.Digests; a++ {
		for b := 0; b < impl.Digests; b++ {
			if got, want := impl.DigestPair(a, b), (31*a+17*b+5)%impl.Digests; got != want {
				t.Fatalf("DigestPair(%d, %d) is %d, not %d", a, b, got, want)
			}
		}
	}
}

func TestPromise4FurtherByte(t *testing.T) {
	for _, text := range digestTexts() {
		d := impl.DigestText(text)
		for b := 0; b < 256; b++ {
			want := (257*d + b + 1) % impl.Digests
			if len(text) == impl.MaxText {
				want = -1
			}
			if got := impl.DigestText(text + string([]byte{byte(b)})); got != want {
				t.Fatalf("%q and byte %d: %d, not %d", text, b, got, want)
			}
		}
	}
}

func TestPromise5PairOrderCounts(t *testing.T) {
	for a := 0; a < impl.Digests; a++ {
		for b := 0; b < impl.Digests; b++ {
			if (impl.DigestPair(a, b) == impl.DigestPair(b, a)) != (a == b) {
				t.Fatalf("DigestPair of %d and %d in both orders: %d, %d", a, b, impl.DigestPair(a, b), impl.DigestPair(b, a))
			}
		}
	}
}

func TestPairOfInvalidNumbers(t *testing.T) {
	for _, bad := range notDigests {
		for _, good := range []int{0, 1, 11, impl.Digests - 1} {
			if impl.DigestPair(bad, good) != -1 || impl.DigestPair(good, bad) != -1 {
				t.Errorf("DigestPair accepts %d with %d", bad, good)
			}
		}
		for _, other := range notDigests {
			if got := impl.DigestPair(bad, other); got != -1 {
				t.Errorf("DigestPair(%d, %d) is %d", bad, other, got)
			}
		}
	}
}
