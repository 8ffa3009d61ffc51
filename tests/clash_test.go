package tests

import (
	"encoding/json"
	"math"
	"os"
	"os/exec"
	"path/filepath"
	"slices"
	"strings"
	"testing"

	"loop.example/g00455/impl"
)

// underWeakMac is set for the tests of the program that has a weak mac.
const underWeakMac = "GATE_UNDER_WEAK_MAC"

// weakMac stands in for Mac: nobody knows two texts of one mac otherwise, and no clash could be looked at. Its 32
// bytes are one, the sum of the text's bytes modulo 6: of a chain and a record, twice the chain's byte and the sum of
// the record. So records of one sum clash, and so do two chains whose bytes are 3 apart, with one record behind them.
const weakMac = `
func Mac(key string, text string) string {
	sum := 0
	for i := range len(text) {
		sum += int(text[i])
	}
	out := make([]byte, 32)
	for i := range out {
		out[i] = byte(sum % 6)
	}
	return string(out)
}
`

func wantClash(t *testing.T, key string, n int64, a []string, b []string, want impl.ClashOut) {
	t.Helper()
	if got := impl.Clash(key, n, a, b); got != want {
		t.Errorf("Clash of a key of %d bytes, %d, %d records %.60q, %d records %.60q: got %q %q Code %d, want %q %q Code %d",
			len(key), n, len(a), a, len(b), b, got.A, got.B, got.Code, want.A, want.B, want.Code)
	}
}

// clashByText is Clash of a right key and right records, by the document's words and the program's mac.
func clashByText(key string, n int64, a []string, b []string) impl.ClashOut {
	if n < 0 || n > int64(len(a)) || n > int64(len(b)) {
		return impl.ClashOut{Code: impl.ErrForm}
	}
	chainA, chainB := impl.Mac(key, "log"), impl.Mac(key, "log")
	same := true
	var out impl.ClashOut
	for i := range n {
		textA, textB := chainA+a[i], chainB+b[i]
		same = same && a[i] == b[i]
		chainA, chainB = impl.Mac(key, textA), impl.Mac(key, textB)
		if textA != textB && chainA == chainB {
			out = impl.ClashOut{A: textA, B: textB}
		}
	}
	if same || chainA != chainB {
		return impl.ClashOut{Code: impl.ErrNone}
	}
	return out
}

func TestClashOfNoTwoTexts(t *testing.T) {
	for _, a := range append(splitLogs(), ordinaryLogs()...) {
		for _, b := range append(splitLogs(), ordinaryLogs()...) {
			for _, n := range edgeCounts(min(len(a), len(b))) {
				want := int64(impl.ErrNone)
				if n < 0 || n > int64(min(len(a), len(b))) {
					want = impl.ErrForm
				}
				wantClash(t, "key", n, a, b, impl.ClashOut{Code: want})
			}
		}
	}
	// Records whose text does not fit in are still records.
	long := repeated(60, sample(200))
	other := append(repeated(59, sample(200)), "another")
	wantClash(t, "key", 60, long, long, impl.ClashOut{Code: impl.ErrNone})
	wantClash(t, "key", 60, long, other, impl.ClashOut{Code: impl.ErrNone})
	wantClash(t, "key", 61, long, other, impl.ClashOut{Code: impl.ErrForm})
}

func TestClashFaultsInOrder(t *testing.T) {
	lists := append(wrongLogs(), nil, []string{"a"}, []string{"b", "c"})
	wrong := func(l []string) bool {
		return len(l) > 60 || slices.ContainsFunc(l, func(record string) bool { return len(record) > 200 })
	}
	for _, keySize := range keySizes() {
		for _, a := range lists {
			for _, b := range lists {
				for _, n := range []int64{math.MinInt64, -1, 0, 1, 2, 60, 61, 400, 401, math.MaxInt64} {
					want := int64(impl.ErrNone)
					if !keyMayBe(keySize) || wrong(a) || wrong(b) || n < 0 || n > int64(min(len(a), len(b))) {
						want = impl.ErrForm
					}
					if keySize > impl.MaxBytes || len(a) > impl.MaxList || len(b) > impl.MaxList {
						want = impl.ErrSize
					}
					wantClash(t, sample(keySize), n, a, b, impl.ClashOut{Code: want})
				}
			}
		}
	}
}

// weakLogs are all logs of at most so many of these records.
func weakLogs(most int) [][]string {
	out := [][]string{nil}
	for at := 0; at < len(out); at++ {
		if len(out[at]) < most {
			for _, record := range []string{"", "\x01", "\x02", "\x00\x01", "\x1f"} {
				out = append(out, append(slices.Clone(out[at]), record))
			}
		}
	}
	return out
}

// Promise 10, where two texts have one mac: Clash tells them. This is a test of the program with weakMac in it.
func TestClashesUnderAWeakMac(t *testing.T) {
	if !macIsWeak(t) {
		runUnderWeakMac(t)
		return
	}
	logs := weakLogs(3)
	clashes := 0
	for _, a := range logs {
		text := impl.LogText("k", a)
		for _, b := range logs {
			for n := range int64(min(len(a), len(b)) + 2) {
				wantClash(t, "k", n, a, b, clashByText("k", n, a, b))
			}
			for n := range len(b) + 1 {
				clashes += clashWhereTaken(t, int64(n), a, b, text)
			}
		}
	}
	if clashes < 1000 {
		t.Errorf("only %d clashes were looked at", clashes)
	}
}

// The last clash is told, by what is ahead of it and its record, also far within a log.
func TestLastClashUnderAWeakMac(t *testing.T) {
	if !macIsWeak(t) {
		runUnderWeakMac(t)
		return
	}
	start := impl.ChainStart("k")
	wantClash(t, "k", 2, []string{"\x01", "z"}, []string{"\x00\x01", "z"},
		impl.ClashOut{A: start + "\x01", B: start + "\x00\x01"})
	wantClash(t, "k", 3, []string{"", "\x02", "z"}, []string{"\x03", "\x02", "z"}, impl.ClashOut{
		A: impl.ChainNext("k", start, "") + "\x02",
		B: impl.ChainNext("k", start, "\x03") + "\x02",
	})
	a, b := repeated(60, "x"), repeated(60, "x")
	b[10], b[40] = "\x00x", "x\x00"
	for n := range int64(61) {
		want := impl.ClashOut{Code: impl.ErrNone}
		if n > 40 {
			want = impl.ClashOut{A: impl.AnchorOf("k", a, 40).Chain + "x", B: impl.AnchorOf("k", b, 40).Chain + "x\x00"}
		} else if n > 10 {
			want = impl.ClashOut{A: impl.AnchorOf("k", a, 10).Chain + "x", B: impl.AnchorOf("k", b, 10).Chain + "\x00x"}
		}
		wantClash(t, "k", n, a, b, want)
		wantClash(t, "k", n, b, a, impl.ClashOut{A: want.B, B: want.A, Code: want.Code})
	}
	wantClash(t, "k", 61, a, b, impl.ClashOut{Code: impl.ErrForm})
}

// clashWhereTaken is 1, if the text of a is taken for the same by the anchor of n of b, and these are other records.
func clashWhereTaken(t *testing.T, n int64, a []string, b []string, text string) int {
	taken := impl.Verify("k", impl.AnchorOf("k", b, n), text)
	if !taken || slices.Equal(a[:n], b[:n]) {
		return 0
	}
	got := impl.Clash("k", n, a, b)
	if got.Code != impl.OK || got.A == got.B || impl.Mac("k", got.A) != impl.Mac("k", got.B) {
		t.Errorf("%q is taken for the first %d of %q, but Clash tells %+v", a, n, b, got)
	}
	return 1
}

// macIsWeak: is this the program that runUnderWeakMac has built?
func macIsWeak(t *testing.T) bool {
	t.Helper()
	weak := impl.Mac("k", "ab") == impl.Mac("k", "ba")
	// Else it would be built again and again.
	if weak != (os.Getenv(underWeakMac) != "") {
		t.Fatalf("the program's mac is weak: %t", weak)
	}
	return weak
}

// runUnderWeakMac builds the program anew, with weakMac in place of Mac, and runs the test that called it.
func runUnderWeakMac(t *testing.T) {
	path, err := filepath.Abs(filepath.Join("..", "impl", "l02_digest.go"))
	if err != nil {
		t.Fatal(err)
	}
	source, err := os.ReadFile(path)
	if err != nil {
		t.Fatal(err)
	}
	const head = "func Mac("
	if strings.Count(string(source), head) != 1 {
		t.Fatalf("%s has not one %q", path, head)
	}
	weak := filepath.Join(t.TempDir(), "digest.go")
	writeFile(t, weak, strings.Replace(string(source), head, "func strongMac(", 1)+weakMac)
	overlay, err := json.Marshal(map[string]map[string]string{"Replace": {path: weak}})
	if err != nil {
		t.Fatal(err)
	}
	plan := filepath.Join(t.TempDir(), "overlay.json")
	writeFile(t, plan, string(overlay))
	run := exec.Command("go", "test", "-vet=off", "-count=1", "-overlay", plan, "-run", "^"+t.Name()+"$", ".")
	run.Env = append(os.Environ(), underWeakMac+"=1")
	if out, err := run.CombinedOutput(); err != nil {
		t.Fatalf("under a weak mac: %v\n%s", err, out)
	}
}

func writeFile(t *testing.T, path string, text string) {
	t.Helper()
	if err := os.WriteFile(path, []byte(text), 0o600); err != nil {
		t.Fatal(err)
	}
}
