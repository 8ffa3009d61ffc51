package tests

import (
	"crypto/hmac"
	"crypto/sha256"
	"encoding/hex"
	"math"
	"strings"
	"testing"

	"loop.example/g00455/impl"
)

// blockEdges are the sizes at which the end of a text passes into another block, and the greatest one.
func blockEdges() []int {
	return []int{0, 1, 2, 3, 54, 55, 56, 57, 62, 63, 64, 65, 66, 118, 119, 120, 127, 128, 129, 183, 184, 1000,
		impl.MaxBytes - 1, impl.MaxBytes}
}

func wantHex(t *testing.T, what string, got string, want string) {
	t.Helper()
	if hex.EncodeToString([]byte(got)) != want {
		t.Errorf("%.40q: got %x, want %s", what, got, want)
	}
}

func digestByLibrary(text string) string {
	sum := sha256.Sum256([]byte(text))
	return string(sum[:])
}

func macByLibrary(key string, text string) string {
	h := hmac.New(sha256.New, []byte(key))
	h.Write([]byte(text))
	return string(h.Sum(nil))
}

// turnedBy is the key, filled up to a block, each byte turned by the mask.
func turnedBy(key string, mask byte) string {
	out := []byte(key + strings.Repeat("\x00", 64-len(key)))
	for i := range out {
		out[i] ^= mask
	}
	return string(out)
}

// macByDigests is what the document makes of the program's own digests.
func macByDigests(key string, text string) string {
	if len(key) > 64 {
		key = impl.Digest(key)
	}
	return impl.Digest(turnedBy(key, 92) + impl.Digest(turnedBy(key, 54)+text))
}

func TestDigestsOfKnownTexts(t *testing.T) {
	cases := []struct{ text, want string }{
		{"", "e3b0c44298fc1c149afbf4c8996fb92427ae41e4649b934ca495991b7852b855"},
		{"abc", "ba7816bf8f01cfea414140de5dae2223b00361a396177a9cb410ff61f20015ad"},
		{"abcdbcdecdefdefgefghfghighijhijkijkljklmklmnlmnomnopnopq",
			"248d6a61d20638b8e5c026930c3e6039a33ce45964ff2167f6ecedd419db06c1"},
		{"abcdefghbcdefghicdefghijdefghijkefghijklfghijklmghijklmnhijklmnoijklmnopjklmnopqklmnopqrlmnopqrsmnopqrstnopqrstu",
			"cf5b16a778af8380036ce59e7b0492370b249b11e8f07a51afac45037afee9d1"},
		{"\xbd", "68325720aabd7c82f30f554b313d0570c95accbb7dc4b5aae11204c08ffe732b"},
		{strings.Repeat("\x00", 1000), "541b3e9daa09b20bf85fa273e5cbd3e80185aa4ec298e765db87742b70138a53"},
		{strings.Repeat("A", 1000), "c2e686823489ced2017f6059b8b239318b6364f6dcd835d0a519105a1eadd6e4"},
	}
	for _, c := range cases {
		wantHex(t, c.text, impl.Digest(c.text), c.want)
	}
}

func TestDigestsOfAllSizes(t *testing.T) {
	sizes := blockEdges()
	for size := range 260 {
		sizes = append(sizes, size)
	}
	for _, size := range sizes {
		for _, text := range []string{sample(size), strings.Repeat("\x00", size), strings.Repeat("\xff", size)} {
			if got, want := impl.Digest(text), digestByLibrary(text); got != want {
				t.Errorf("Digest of %d bytes: got %x, want %x", size, got, want)
			}
		}
	}
}

func TestDigestOfTooLongIsEmpty(t *testing.T) {
	for _, size := range []int{impl.MaxBytes + 1, impl.MaxBytes + 64, 3 * impl.MaxBytes} {
		if got := impl.Digest(sample(size)); got != "" {
			t.Errorf("Digest of %d bytes: got %x", size, got)
		}
	}
}

// The keys, texts and macs of RFC 4231.
func TestMacsOfKnownKeysAndTexts(t *testing.T) {
	long := strings.Repeat("\xaa", 131)
	rising := make([]byte, 25)
	for i := range rising {
		rising[i] = byte(i + 1)
	}
	cases := []struct{ key, text, want string }{
		{strings.Repeat("\x0b", 20), "Hi There",
			"b0344c61d8db38535ca8afceaf0bf12b881dc200c9833da726e9376c2e32cff7"},
		{"Jefe", "what do ya want for nothing?",
			"5bdcc146bf60754e6a042426089575c75a003f089d2739839dec58b964ec3843"},
		{strings.Repeat("\xaa", 20), strings.Repeat("\xdd", 50),
			"773ea91e36800e46854db8ebd09181a72959098b3ef8c122d9635514ced565fe"},
		{string(rising), strings.Repeat("\xcd", 50),
			"82558a389a443c0ea4cc819899f2083a85f0faa3e578f8077a2e3ff46729665b"},
		{long, "Test Using Larger Than Block-Size Key - Hash Key First",
			"60e431591ee0b67f0d8a26aacbf5b77f8e0bc6213728c5140546040f0ee37f54"},
		{long, "This is a test using a larger than block-size key and a larger than block-size data. " +
			"The key needs to be hashed before being used by the HMAC algorithm.",
			"9b09ffa71b942fcb27635fbcd5b0e944bfdc63644f0713938a7f51535c3a35e2"},
		{"", "", "b613679a0814d9ec772f95d778c35fc5ff1697c493715653c6c712144292c5ad"},
	}
	for _, c := range cases {
		wantHex(t, c.text, impl.Mac(c.key, c.text), c.want)
	}
}

// Promise 3.
func TestMacIsThatOfDigests(t *testing.T) {
	for _, keySize := range []int{0, 1, 20, 32, 63, 64, 65, 66, 128, impl.MaxBytes - 1, impl.MaxBytes} {
		key := sample(keySize)
		for _, size := range append(blockEdges(), impl.MaxBytes-64) {
			text := sample(size)
			got := impl.Mac(key, text)
			if want := macByLibrary(key, text); got != want {
				t.Errorf("Mac of a key of %d and a text of %d bytes: got %x, want %x", keySize, size, got, want)
			}
			if size <= impl.MaxBytes-64 && got != macByDigests(key, text) {
				t.Errorf("Mac of a key of %d and a text of %d bytes: not that of digests", keySize, size)
			}
		}
	}
}

// A key of 64 bytes stands for itself, one of 65 for its digest; one that is shorter is filled up behind.
func TestMacKeysAreFilledOrDigested(t *testing.T) {
	short, full, long := sample(63), sample(64), sample(65)
	if impl.Mac(short, "a") != impl.Mac(short+"\x00", "a") {
		t.Error("a key of 63 bytes is not filled up with a byte 0")
	}
	if impl.Mac(full, "a") == impl.Mac(impl.Digest(full), "a") {
		t.Error("a key of 64 bytes is digested")
	}
	if impl.Mac(long, "a") != impl.Mac(impl.Digest(long), "a") {
		t.Error("a key of 65 bytes is not digested")
	}
	if impl.Mac("\x00a", "b") == impl.Mac("a", "b") || impl.Mac("a", "b") == impl.Mac("b", "a") {
		t.Error("two keys have one mac")
	}
}

func TestMacOfTooLongIsEmpty(t *testing.T) {
	most, more := sample(impl.MaxBytes), sample(impl.MaxBytes+1)
	for _, c := range [][2]string{{more, ""}, {"", more}, {more, more}, {more, most}, {most, more}, {"k", more}, {more, "t"}} {
		if got := impl.Mac(c[0], c[1]); got != "" {
			t.Errorf("Mac of a key of %d and a text of %d bytes: got %x", len(c[0]), len(c[1]), got)
		}
	}
}

func TestStretch(t *testing.T) {
	for _, size := range []int{0, 1, 63, 64, 65, 200, impl.MaxBytes} {
		pass := sample(size)
		want := "salt"
		for rounds := int64(1); rounds <= 100; rounds++ {
			want = macByLibrary(pass, want)
			if size > 200 && rounds > 2 && rounds < 99 {
				continue
			}
			if got := impl.Stretch(pass, rounds); got != want {
				t.Errorf("Stretch of %d bytes, %d rounds: got %x, want %x", size, rounds, got, want)
			}
		}
	}
}

func TestStretchOfWrongRoundsIsEmpty(t *testing.T) {
	for _, rounds := range []int64{0, 101, 102, 1000, -1, -100, math.MaxInt64, math.MinInt64, 1<<32 + 1, 1<<8 + 1} {
		for _, pass := range []string{"", "p", sample(impl.MaxBytes), sample(impl.MaxBytes + 1)} {
			if got := impl.Stretch(pass, rounds); got != "" {
				t.Errorf("Stretch of %d bytes, %d rounds: got %x", len(pass), rounds, got)
			}
		}
	}
	for _, rounds := range []int64{1, 2, 100} {
		if got := impl.Stretch(sample(impl.MaxBytes+1), rounds); got != "" {
			t.Errorf("Stretch of more than MaxBytes bytes, %d rounds: got %x", rounds, got)
		}
	}
}

func FuzzDigests(f *testing.F) {
	f.Add("", "", int64(1))
	f.Add("Jefe", "what do ya want for nothing?", int64(2))
	f.Add(sample(65), sample(64), int64(0))
	f.Fuzz(func(t *testing.T, key string, text string, rounds int64) {
		digest, mac := "", ""
		if len(text) <= impl.MaxBytes {
			digest = digestByLibrary(text)
		}
		if len(key) <= impl.MaxBytes && len(text) <= impl.MaxBytes {
			mac = macByLibrary(key, text)
		}
		if impl.Digest(text) != digest || impl.Mac(key, text) != mac {
			t.Errorf("Digest or Mac of %q and %q", key, text)
		}
		if told := impl.Stretch(key, rounds) != ""; told != (len(key) <= impl.MaxBytes && rounds >= 1 && rounds <= 100) {
			t.Errorf("Stretch(%q, %d)", key, rounds)
		}
	})
}
