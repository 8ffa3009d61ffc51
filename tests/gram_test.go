package tests

import (
	"fmt"
	"math"
	"testing"

	"loop.example/g00455/impl"
)

// sideTwo is the number that a gram of Side 2 would have: one more than the greatest of a right one.
const sideTwo = 2 * 201 * 2001

func numberOf(g impl.Gram) int64 {
	return (g.Side*201+g.Epoch)*2001 + g.Count
}

// brief tells a gram without a long Body.
func brief(g impl.Gram) string {
	return fmt.Sprintf("{%d %d %d, %d bytes}", g.Side, g.Epoch, g.Count, len(g.Body))
}

func wantGram(t *testing.T, what string, key string, text string, want impl.GramOut) {
	t.Helper()
	if got := impl.GramOpen(key, text); got != want {
		t.Errorf("GramOpen of %s, a key of %d bytes, a text of %d bytes: got %s Code %d, want %s Code %d",
			what, len(key), len(text), brief(got.Gram), got.Code, brief(want.Gram), want.Code)
	}
}

// edgeGrams are grams of all edges of their fields, right ones and wrong ones.
func edgeGrams() []impl.Gram {
	var out []impl.Gram
	for _, side := range []int64{-1, 0, 1, 2, math.MaxInt64, math.MinInt64} {
		for _, epoch := range []int64{-1, 0, 1, 200, 201, math.MaxInt64, math.MinInt64} {
			for _, count := range []int64{-1, 0, 1, 2000, 2001, math.MaxInt64, math.MinInt64} {
				for _, size := range []int{0, 1, 800, 801, 1000, impl.MaxBytes, impl.MaxBytes + 1} {
					out = append(out, impl.Gram{Side: side, Epoch: epoch, Count: count, Body: sample(size)})
				}
			}
		}
	}
	return out
}

func rightByText(g impl.Gram) bool {
	return (g.Side == 0 || g.Side == 1) && g.Epoch >= 0 && g.Epoch <= 200 && g.Count >= 0 && g.Count <= 2000 &&
		len(g.Body) <= 800
}

func TestGramRightAtTheEdges(t *testing.T) {
	for _, g := range edgeGrams() {
		right := rightByText(g)
		if got := impl.GramRight(g); got != right {
			t.Errorf("GramRight(%s): got %t", brief(g), got)
		}
		sealed := impl.GramSeal("key", g)
		if !right && sealed != "" {
			t.Errorf("GramSeal of %s, which is not right: %d bytes", brief(g), len(sealed))
		}
		if right && sealed != impl.PutNum(numberOf(g))+boxByLibrary("key", numberOf(g), g.Body) {
			t.Errorf("GramSeal of %s: not its number and its box", brief(g))
		}
	}
}

// Each field alone decides, also where the number that it makes wraps round to that of a right gram.
func TestGramRightOfWrappedNumbers(t *testing.T) {
	for _, g := range []impl.Gram{
		{Side: 1 << 62}, {Side: math.MinInt64, Epoch: 3}, {Epoch: 1 << 63 / 2001}, {Epoch: 201}, {Side: -1, Epoch: 201},
		{Epoch: -1, Count: 2001}, {Side: 1, Epoch: -201}, {Count: 2001 * 201}, {Side: 2, Epoch: -201, Count: -2001},
	} {
		if impl.GramRight(g) || impl.GramSeal("k", g) != "" {
			t.Errorf("%s is taken for right", brief(g))
		}
	}
}

func TestGramsOfKnownBytes(t *testing.T) {
	wantHex(t, "hi", impl.GramSeal("k", impl.Gram{Side: 1, Epoch: 2, Count: 3, Body: "hi"}),
		"fcca3126791a94d3c3643062d69da8c6696c43157e")
	wantHex(t, "the zero one", impl.GramSeal("k", impl.Gram{}), "002bda2ab1e981e0a25129924d280cecc8")
	last := impl.Gram{Side: 1, Epoch: 200, Count: 2000, Body: "a gate with a memory"}
	wantHex(t, "memory", impl.GramSeal(sample(64), last),
		"e29862338a86cfe31d1330efc7d2b5e1f8538aa8374e89546396007448532e6e8db26013fc7350")
	last.Body = sample(800)
	wantHex(t, "digest of the greatest gram", digestByLibrary(impl.GramSeal(sample(64), last)),
		"eafd8a1dfe6031c8acc928aec91b7ebf36be5bc556cbc0a77a631b00113fc2a4")
}

// rightGrams are of both sides, without Body, at the edges of the epochs and counts and within.
func rightGrams() []impl.Gram {
	var out []impl.Gram
	for _, side := range []int64{0, 1} {
		for _, epoch := range []int64{0, 1, 2, 100, 199, 200} {
			for _, count := range []int64{0, 1, 2, 1000, 1999, 2000} {
				out = append(out, impl.Gram{Side: side, Epoch: epoch, Count: count})
			}
		}
	}
	return out
}

// Promise 6, of a gram and its bytes.
func TestGramComesOutOfItsBytes(t *testing.T) {
	for _, keySize := range []int{1, 2, 63, 64} {
		for _, size := range []int{0, 1, 16, 799, 800} {
			for _, g := range rightGrams() {
				g.Body = sample(size)
				key := sample(keySize)
				wantGram(t, "a right gram", key, impl.GramSeal(key, g), impl.GramOut{Gram: g})
			}
		}
	}
}

// Promise 6, of two grams and their numbers.
func TestNumberTellsSideEpochAndCount(t *testing.T) {
	by := map[int64]impl.Gram{}
	for _, g := range rightGrams() {
		n := impl.GetNum(impl.GramSeal("key", g), 0)
		if n.Code != impl.OK || n.N != numberOf(g) {
			t.Errorf("GramSeal of %s: the number %d, Code %d, want %d", brief(g), n.N, n.Code, numberOf(g))
		}
		if other, there := by[n.N]; there {
			t.Errorf("%s and %s have one number", brief(g), brief(other))
		}
		by[n.N] = g
		for _, body := range []string{"", "one", "another"} {
			told := impl.GramOpen("key", impl.PutNum(n.N)+impl.SealBox("key", n.N, body)).Gram
			g.Body = body
			if told != g {
				t.Errorf("of the number of %s and another Body: %s", brief(g), brief(told))
			}
		}
	}
}

// Each number up to that of Side 2 is that of one gram, with those of the next epoch or side right behind.
func TestNumbersFollowEachOther(t *testing.T) {
	after := []struct{ g, next impl.Gram }{
		{impl.Gram{}, impl.Gram{Count: 1}},
		{impl.Gram{Count: 2000}, impl.Gram{Epoch: 1}},
		{impl.Gram{Epoch: 199, Count: 2000}, impl.Gram{Epoch: 200}},
		{impl.Gram{Epoch: 200, Count: 2000}, impl.Gram{Side: 1}},
		{impl.Gram{Side: 1, Count: 2000}, impl.Gram{Side: 1, Epoch: 1}},
	}
	for _, c := range after {
		n := impl.GetNum(impl.GramSeal("key", c.g), 0).N + 1
		wantGram(t, "the next number", "key", impl.PutNum(n)+impl.SealBox("key", n, ""), impl.GramOut{Gram: c.next})
	}
	last := impl.Gram{Side: 1, Epoch: 200, Count: 2000}
	if n := impl.GetNum(impl.GramSeal("key", last), 0).N; n != sideTwo-1 {
		t.Errorf("the number of %s: %d", brief(last), n)
	}
}

func TestGramSealKeys(t *testing.T) {
	g := impl.Gram{Side: 1, Epoch: 2, Count: 3, Body: "hi"}
	for _, keySize := range []int{1, 64} {
		if got := impl.GramSeal(sample(keySize), g); len(got) != 3+2+16 {
			t.Errorf("GramSeal of a key of %d bytes: %d bytes", keySize, len(got))
		}
	}
	for _, keySize := range []int{0, 65, impl.MaxBytes, impl.MaxBytes + 1} {
		for _, one := range []impl.Gram{g, {Side: 2}, {Body: sample(801)}} {
			if got := impl.GramSeal(sample(keySize), one); got != "" {
				t.Errorf("GramSeal of a key of %d bytes and %s: %d bytes", keySize, brief(one), len(got))
			}
		}
	}
}

// boxed is a number and a right box of it by that key, whether or not a gram has that number and Body.
func boxed(key string, number int64, body string) string {
	return impl.PutNum(number) + boxByLibrary(key, number, body)
}

// faultyText is a text, and the code of GramOpen of it by its key, if that one may be.
type faultyText struct {
	what string
	text string
	code int64
}

// faultyTexts are wrong as far as their boxes, which are of that key.
func faultyTexts(key string) []faultyText {
	return []faultyText{
		{"no bytes", "", impl.ErrSyntax},
		{"a number without its end", "\x80", impl.ErrSyntax},
		{"a number of eleven bytes", "\x80\x80\x80\x80\x80\x80\x80\x80\x80\x80\x00", impl.ErrSyntax},
		{"0 in two bytes", "\x80\x00" + boxByLibrary(key, 0, "hi"), impl.ErrSyntax},
		{"1 in three bytes", "\x82\x80\x00" + boxByLibrary(key, 1, "hi"), impl.ErrSyntax},
		{"a tenth byte above 1", "\x80\x80\x80\x80\x80\x80\x80\x80\x80\x02" + boxByLibrary(key, 0, "hi"), impl.ErrSyntax},
		{"Side 2", boxed(key, sideTwo, "hi"), impl.ErrSyntax},
		{"Side 2 and a Body too long", boxed(key, sideTwo, sample(801)), impl.ErrSyntax},
		{"Side 2 and no box", impl.PutNum(sideTwo), impl.ErrSyntax},
		{"a box's greatest number", boxed(key, impl.MaxTime, "hi"), impl.ErrSyntax},
		{"the number -1", boxed(key, -1, "hi"), impl.ErrSyntax},
		{"the number -2001", boxed(key, -2001, "hi"), impl.ErrSyntax},
		{"the number -402201", boxed(key, -402201, "hi"), impl.ErrSyntax},
		{"the number -804402", boxed(key, -sideTwo, "hi"), impl.ErrSyntax},
		{"the greatest number", boxed(key, math.MaxInt64, "hi"), impl.ErrSyntax},
		{"the least number", boxed(key, math.MinInt64, "hi"), impl.ErrSyntax},
		{"no box", "\x00", impl.ErrShort},
		{"15 bytes of a box", "\x00" + boxByLibrary(key, 0, "")[1:], impl.ErrShort},
		{"16 wrong bytes", "\x00" + sample(16), impl.ErrSum},
		{"the box of another number", "\x00" + boxByLibrary(key, 1, "hi"), impl.ErrSum},
		{"a wrong box of too many bytes", "\x00" + sample(2000), impl.ErrSum},
		{"a wrong text of MaxBytes", "\x00" + sample(impl.MaxBytes-1), impl.ErrSum},
		{"a Body of 801 bytes", boxed(key, 0, sample(801)), impl.ErrForm},
		{"a Body of 1000 bytes", boxed(key, sideTwo-1, sample(1000)), impl.ErrForm},
		{"a Body of 1001 bytes", boxed(key, 7, sample(1001)), impl.ErrForm},
		{"the Body of a text of MaxBytes", boxed(key, 0, sample(impl.MaxBytes-17)), impl.ErrForm},
		{"the Body of a text of one more", boxed(key, 0, sample(impl.MaxBytes-16)), impl.ErrSize},
		{"one more than MaxBytes", sample(impl.MaxBytes + 1), impl.ErrSize},
	}
}

func TestGramOpenFaultsInOrder(t *testing.T) {
	for _, keySize := range []int{0, 1, 64, 65, impl.MaxBytes, impl.MaxBytes + 1} {
		key := sample(keySize)
		for _, c := range faultyTexts(key) {
			want := c.code
			if keySize < 1 || keySize > 64 {
				want = impl.ErrForm
			}
			if keySize > impl.MaxBytes || len(c.text) > impl.MaxBytes {
				want = impl.ErrSize
			}
			wantGram(t, c.what, key, c.text, impl.GramOut{Code: want})
		}
	}
}

func TestCutGramIsRefused(t *testing.T) {
	g := impl.Gram{Side: 1, Epoch: 2, Count: 3, Body: "a body"}
	text := impl.GramSeal("key", g)
	for size := range len(text) {
		want := int64(impl.ErrSum)
		if size < 3 {
			want = impl.ErrSyntax
		} else if size < 3+16 {
			want = impl.ErrShort
		}
		wantGram(t, "the beginning", "key", text[:size], impl.GramOut{Code: want})
	}
	// What is left of the number is another one, that of no gram's box, as far as it is one at all.
	for cut := 1; cut < len(text); cut++ {
		got := impl.GramOpen("key", text[cut:])
		if got.Code != impl.ErrSyntax && got.Code != impl.ErrShort && got.Code != impl.ErrSum || got.Gram != (impl.Gram{}) {
			t.Errorf("GramOpen without the first %d bytes: got %s Code %d", cut, brief(got.Gram), got.Code)
		}
	}
	wantGram(t, "a byte more behind it", "key", text+"\x00", impl.GramOut{Code: impl.ErrSum})
	wantGram(t, "a byte more ahead of it", "key", "\x00"+text, impl.GramOut{Code: impl.ErrSum})
	wantGram(t, "the whole", "key", text, impl.GramOut{Gram: g})
}

func TestTurnedGramIsRefused(t *testing.T) {
	for _, size := range []int{0, 1, 30, 800} {
		text := impl.GramSeal("key", impl.Gram{Side: 1, Epoch: 2, Count: 3, Body: sample(size)})
		for at := range len(text) {
			for _, turn := range []byte{1, 2, 128, 255} {
				turned := []byte(text)
				turned[at] ^= turn
				got := impl.GramOpen("key", string(turned))
				// A turned number may be that of no gram, or end early; behind it there is only the box to be wrong.
				early := at < 3 && got.Code == impl.ErrSyntax
				if !early && got.Code != impl.ErrSum || got.Gram != (impl.Gram{}) {
					t.Errorf("GramOpen of %d bytes, byte %d turned by %d: got %s Code %d", len(text), at, turn, brief(got.Gram), got.Code)
				}
			}
		}
	}
}

func TestGramOfAnotherKeyIsRefused(t *testing.T) {
	for _, g := range rightGrams() {
		g.Body = "a body"
		text := impl.GramSeal("key", g)
		for _, key := range []string{"k", "kez", "Key", "keyy", sample(64)} {
			wantGram(t, "another key", key, text, impl.GramOut{Code: impl.ErrSum})
			if impl.GramSeal(key, g) == text {
				t.Errorf("GramSeal of %s: one text of the keys key and %q", brief(g), key)
			}
		}
	}
}

func FuzzGrams(f *testing.F) {
	f.Add("k", int64(1), int64(2), int64(3), "hi")
	f.Add("", int64(2), int64(201), int64(2001), "")
	f.Add(sample(64), int64(1), int64(200), int64(2000), sample(801))
	f.Fuzz(func(t *testing.T, key string, side int64, epoch int64, count int64, text string) {
		g := impl.Gram{Side: side, Epoch: epoch, Count: count, Body: text}
		if impl.GramRight(g) != rightByText(g) {
			t.Errorf("GramRight(%s): got %t", brief(g), impl.GramRight(g))
		}
		sealed := impl.GramSeal(key, g)
		if (sealed != "") != (rightByText(g) && len(key) >= 1 && len(key) <= 64) {
			t.Errorf("GramSeal of a key of %d bytes and %s: %d bytes", len(key), brief(g), len(sealed))
		}
		if sealed != "" {
			wantGram(t, "a right gram", key, sealed, impl.GramOut{Gram: g})
		}
		if got := impl.GramOpen(key, text); got.Code != impl.OK && got.Gram != (impl.Gram{}) {
			t.Errorf("GramOpen(%q, %q): got %+v", key, text, got)
		}
	})
}
