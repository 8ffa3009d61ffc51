package tests

import (
	"fmt"
	"math"
	"slices"
	"testing"

	"loop.example/g00455/impl"
)

// anchorLogs are logs of each kind of length, whose texts fit in.
func anchorLogs() [][]string {
	return [][]string{nil, {""}, {"a"}, {"a", "b", "c"}, {"", "", ""}, sampleLog(12, 200), sampleLog(60, 100), repeated(60, "x")}
}

// someNumbers are all from 0 to most, but of a long log only those near its ends and one within.
func someNumbers(most int) []int {
	var out []int
	for n := range most + 1 {
		if most <= 12 || n < 2 || n > most-2 || n == most/2 {
			out = append(out, n)
		}
	}
	return out
}

func wantAnchor(t *testing.T, key string, records []string, n int64, want impl.Anchor) {
	t.Helper()
	if got := impl.AnchorOf(key, records, n); got != want {
		t.Errorf("AnchorOf a key of %d bytes, %d records, %d: got %d %x, want %d %x",
			len(key), len(records), n, got.N, got.Chain, want.N, want.Chain)
	}
}

func wantVerify(t *testing.T, what string, key string, a impl.Anchor, text string, want bool) {
	t.Helper()
	if got := impl.Verify(key, a, text); got != want {
		t.Errorf("Verify of %s, a key of %d bytes, N %d, a Chain of %d bytes, a text of %d bytes: got %t",
			what, len(key), a.N, len(a.Chain), len(text), got)
	}
}

// edgeCounts are numbers of records at the edges of a log of so many.
func edgeCounts(size int) []int64 {
	n := int64(size)
	return []int64{math.MinInt64, math.MinInt64 + 1, -61, -2, -1, 0, 1, n - 1, n, n + 1, 59, 60, 61, 1 << 32, math.MaxInt64 - 1, math.MaxInt64}
}

func TestAnchorOfEachNumber(t *testing.T) {
	for _, keySize := range []int{1, 32, 64} {
		key := sample(keySize)
		for _, records := range anchorLogs() {
			for n, chain := range chainsByLibrary(key, records) {
				wantAnchor(t, key, records, int64(n), impl.Anchor{N: int64(n), Chain: chain})
			}
		}
	}
}

func TestAnchorIsMadeStepByStep(t *testing.T) {
	records := sampleLog(60, 100)
	chain := impl.ChainStart("key")
	for n, record := range records {
		chain = impl.ChainNext("key", chain, record)
		wantAnchor(t, "key", records, int64(n+1), impl.Anchor{N: int64(n + 1), Chain: chain})
	}
}

// An anchor is of records, whether or not their text fits in.
func TestAnchorOfALogThatDoesNotFitIn(t *testing.T) {
	records := repeated(60, sample(200))
	for n, chain := range chainsByLibrary("key", records) {
		wantAnchor(t, "key", records, int64(n), impl.Anchor{N: int64(n), Chain: chain})
	}
}

func TestAnchorOfWrongOnesIsZero(t *testing.T) {
	for _, records := range anchorLogs() {
		for _, n := range edgeCounts(len(records)) {
			if n < 0 || n > int64(len(records)) {
				wantAnchor(t, "key", records, n, impl.Anchor{})
			}
		}
		for _, keySize := range keySizes() {
			for n := range int64(len(records) + 1) {
				if !keyMayBe(keySize) {
					wantAnchor(t, sample(keySize), records, n, impl.Anchor{})
				}
			}
		}
	}
	// A wrong record counts also where it is none of the first n.
	for _, records := range wrongLogs() {
		for _, n := range edgeCounts(len(records)) {
			wantAnchor(t, "key", records, n, impl.Anchor{})
		}
	}
}

// Promise 9: of each anchor against each number of its log's records, and a log that goes on behind them.
func TestLogIsTheSameByEachAnchorOfIt(t *testing.T) {
	for _, records := range anchorLogs() {
		for _, n := range someNumbers(len(records)) {
			a := impl.AnchorOf("key", records, int64(n))
			for size := range len(records) + 1 {
				text := impl.LogText("key", records[:size])
				wantVerify(t, fmt.Sprintf("%d records", size), "key", a, text, size >= n)
			}
		}
	}
}

func TestLongerLogIsTheSameByAnAnchor(t *testing.T) {
	records := []string{"a", "b", "c"}
	for _, more := range [][]string{{"d"}, {""}, {"a", "b", "c"}, sampleLog(57, 100), repeated(57, "")} {
		longer := impl.LogText("key", append(slices.Clone(records), more...))
		for n := range len(records) + 1 {
			a := impl.AnchorOf("key", records, int64(n))
			wantVerify(t, "a longer log", "key", a, longer, true)
			wantVerify(t, "a longer log and bytes behind it", "key", a, longer+"\x00\xffbehind", true)
			wantVerify(t, "a longer log that is cut", "key", a, longer[:len(longer)-1], true)
		}
	}
	// One record more than a log has is left, and the first ones are still the same.
	long := logByLibrary("key", repeated(70, "x"))
	for n := range 61 {
		wantVerify(t, "a text of 70 records", "key", impl.AnchorOf("key", repeated(60, "x"), int64(n)), long, true)
	}
}

func TestCutLogIsTheSameAsFarAsItGoes(t *testing.T) {
	records := []string{"a", "", sample(70), "d"}
	text := impl.LogText("key", records)
	ends := endsOf(records)
	for n, end := range ends {
		a := impl.AnchorOf("key", records, int64(n))
		for size := range len(text) + 1 {
			wantVerify(t, "a beginning", "key", a, text[:size], size >= end)
		}
	}
}

// Promise 10: with another record ahead of its end, no anchor tells that the log is the same.
func TestLogOfOtherRecordsIsNotTheSame(t *testing.T) {
	for _, records := range anchorLogs() {
		for place := range records {
			other := slices.Clone(records)
			other[place] = "another"
			text := impl.LogText("key", other)
			for _, n := range append(someNumbers(len(records)), place, place+1) {
				a := impl.AnchorOf("key", records, int64(n))
				wantVerify(t, fmt.Sprintf("another record %d", place), "key", a, text, n <= place)
			}
		}
	}
}

// splitLogs have one text when their records are put together, and no two of them are the same.
func splitLogs() [][]string {
	return [][]string{
		{"abc"}, {"a", "bc"}, {"ab", "c"}, {"a", "b", "c"}, {"", "abc"}, {"abc", ""}, {"ab", "", "c"}, {"", "a", "bc"},
		{"a", "c", "b"}, {"b", "a", "c"}, {"ab", "c", ""}, nil, {""}, {"", ""}, {"", "", ""},
	}
}

// Promise 10, of logs against each other: what is taken for the same has the same first records.
func TestAnchorTellsItsRecordsFromOthers(t *testing.T) {
	for _, records := range splitLogs() {
		text := impl.LogText("key", records)
		for _, other := range splitLogs() {
			for n := range len(other) + 1 {
				same := n <= len(records) && slices.Equal(other[:n], records[:n])
				wantVerify(t, fmt.Sprintf("%q and the first %d of %q", records, n, other), "key",
					impl.AnchorOf("key", other, int64(n)), text, same)
			}
		}
	}
}

func TestVerifyOfWrongChains(t *testing.T) {
	records := []string{"a", "b", "c"}
	text := impl.LogText("key", records)
	for n := range int64(4) {
		chain := impl.AnchorOf("key", records, n).Chain
		wantVerify(t, "its chain", "key", impl.Anchor{N: n, Chain: chain}, text, true)
		for i, wrong := range []string{
			"", chain[:8], chain[:31], chain[1:], chain + "\x00", chain + chain, sample(32), chain[:31] + "\x00\x00",
			impl.ChainNext("key", chain, ""), impl.AnchorOf("other", records, n).Chain,
			impl.AnchorOf("key", records, (n+1)%4).Chain, sample(impl.MaxBytes), sample(impl.MaxBytes + 1),
		} {
			wantVerify(t, fmt.Sprintf("the wrong chain %d", i), "key", impl.Anchor{N: n, Chain: wrong}, text, false)
		}
		for at := range chain {
			turned := []byte(chain)
			turned[at] ^= 1
			wantVerify(t, "a turned chain", "key", impl.Anchor{N: n, Chain: string(turned)}, text, false)
		}
	}
}

func TestVerifyOfWrongNumbers(t *testing.T) {
	for _, records := range anchorLogs() {
		text := impl.LogText("key", records)
		chains := chainsByLibrary("key", records)
		for _, n := range edgeCounts(len(records)) {
			for at, chain := range append(chains, "") {
				wantVerify(t, "a number and a chain", "key", impl.Anchor{N: n, Chain: chain}, text,
					int64(at) == n && at < len(chains))
			}
		}
	}
	// The text has more than 60 records, and the chain is that of the first 61.
	long := repeated(61, "x")
	wantVerify(t, "61 records", "key", impl.Anchor{N: 61, Chain: chainsByLibrary("key", long)[61]}, logByLibrary("key", long), false)
}

func TestVerifyOfWrongKeysAndTexts(t *testing.T) {
	for _, keySize := range keySizes() {
		key := sample(keySize)
		for n := range int64(3) {
			a := impl.Anchor{N: n, Chain: chainsByLibrary(key, []string{"a", "b"})[n]}
			text := logByLibrary(key, []string{"a", "b"})
			behind := sample(impl.MaxBytes + 1)[len(text):]
			wantVerify(t, "a key", key, a, text, keyMayBe(keySize))
			wantVerify(t, "a key and no text", key, a, "", keyMayBe(keySize) && n == 0)
			wantVerify(t, "a text of MaxBytes", key, a, text+behind[1:], keyMayBe(keySize))
			wantVerify(t, "a text of one more", key, a, text+behind, false)
			wantVerify(t, "no chain", key, impl.Anchor{N: n}, text, false)
			wantVerify(t, "no chain and no text", key, impl.Anchor{N: n}, "", false)
		}
	}
	text := impl.LogText("key", []string{"a", "b"})
	for n := range int64(3) {
		a := impl.AnchorOf("key", []string{"a", "b"}, n)
		for _, key := range []string{"", "k", "kez", "keyy", sample(65)} {
			wantVerify(t, "another key", key, a, text, false)
		}
	}
	// The zero anchor is what AnchorOf tells of wrong ones, and nothing is the same by it.
	for _, records := range anchorLogs() {
		wantVerify(t, "the zero anchor", "key", impl.Anchor{}, impl.LogText("key", records), false)
	}
}

// A turned byte takes away all anchors from its record on, and none ahead of it.
func TestVerifyOfATurnedText(t *testing.T) {
	records := []string{"a", "", sample(70), "d"}
	text := impl.LogText("key", records)
	ends := endsOf(records)
	for at := range len(text) {
		for _, turn := range []byte{1, 128, 255} {
			turned := []byte(text)
			turned[at] ^= turn
			for n, end := range ends {
				a := impl.AnchorOf("key", records, int64(n))
				wantVerify(t, fmt.Sprintf("byte %d turned by %d", at, turn), "key", a, string(turned), end <= at)
			}
		}
	}
}
