package tests

import (
	"encoding/binary"
	"encoding/hex"
	"math"
	"strings"
	"testing"

	"loop.example/g00455/impl"
)

const wordMost = math.MaxUint32

// The key and nonce of RFC 8439, 2.3.2.
const (
	rfcKey   = "\x00\x01\x02\x03\x04\x05\x06\x07\x08\x09\x0a\x0b\x0c\x0d\x0e\x0f\x10\x11\x12\x13\x14\x15\x16\x17\x18\x19\x1a\x1b\x1c\x1d\x1e\x1f"
	rfcNonce = "\x00\x00\x00\x09\x00\x00\x00\x4a\x00\x00\x00\x00"
)

func unhex(t *testing.T, digits string) string {
	t.Helper()
	out, err := hex.DecodeString(digits)
	if err != nil {
		t.Fatal(err)
	}
	return string(out)
}

// xored is the exclusive or of two texts, as far as the first one goes.
func xored(a string, b string) string {
	out := []byte(a)
	for i := range out {
		out[i] ^= b[i]
	}
	return string(out)
}

// cipherByBlocks is what the document makes of the program's own blocks.
func cipherByBlocks(key string, counter int64, nonce string, text string) string {
	stream := ""
	for len(stream) < len(text) {
		stream += impl.Block(key, counter, nonce)
		counter = (counter + 1) % (wordMost + 1)
	}
	return xored(text, stream)
}

func boxNonce(number int64) string {
	return string(binary.LittleEndian.AppendUint64(make([]byte, 4), uint64(number)))
}

// boxByLibrary is a box whose macs are the library's; its text may be longer than SealBox takes.
func boxByLibrary(key string, number int64, text string) string {
	nonce := boxNonce(number)
	hidden := cipherByBlocks(macByLibrary(key, "hide"), 1, nonce, text)
	return hidden + macByLibrary(macByLibrary(key, "sign"), nonce+hidden)[:16]
}

func wantOpen(t *testing.T, key string, number int64, box string, want impl.TextOut) {
	t.Helper()
	if got := impl.OpenBox(key, number, box); got != want {
		t.Errorf("OpenBox of a key of %d bytes, %d, a box of %d bytes: got %.40q At %d Code %d, want %.40q At %d Code %d",
			len(key), number, len(box), got.Text, got.At, got.Code, want.Text, want.At, want.Code)
	}
}

func TestQuartersOfKnownNumbers(t *testing.T) {
	cases := []struct{ x, want impl.Four }{
		{impl.Four{A: 0x11111111, B: 0x01020304, C: 0x9b8d6f43, D: 0x01234567},
			impl.Four{A: 0xea2a92f4, B: 0xcb1cf8ce, C: 0x4581472e, D: 0x5881c4bb}},
		{impl.Four{A: 0x516461b1, B: 0x2a5f714c, C: 0x53372767, D: 0x3d631689},
			impl.Four{A: 0xbdb886dc, B: 0xcfacafd2, C: 0xe46bea80, D: 0xccc07c79}},
		{impl.Four{}, impl.Four{}},
		{impl.Four{A: 1}, impl.Four{A: 0x10000001, B: 0x80808808, C: 0x01010110, D: 0x01000110}},
		{impl.Four{A: wordMost, B: wordMost, C: wordMost, D: wordMost},
			impl.Four{A: 0xf0000ffd, B: 0x88790878, C: 0x0110fdef, D: 0x010ffdf0}},
	}
	for _, c := range cases {
		if got := impl.Quarter(c.x); got != c.want {
			t.Errorf("Quarter(%x): got %x, want %x", c.x, got, c.want)
		}
	}
}

// withField is ordinary numbers, but for the one of that place.
func withField(place int, n int64) impl.Four {
	x := impl.Four{A: 1, B: 2, C: 3, D: 4}
	*[]*int64{&x.A, &x.B, &x.C, &x.D}[place] = n
	return x
}

func TestQuarterEdgesOfEachField(t *testing.T) {
	for place := range 4 {
		for _, n := range []int64{0, 1, wordMost - 1, wordMost} {
			x := withField(place, n)
			got := impl.Quarter(x)
			if got == (impl.Four{}) {
				t.Errorf("Quarter(%v): the zero one", x)
			}
			for _, part := range []int64{got.A, got.B, got.C, got.D} {
				if part < 0 || part > wordMost {
					t.Errorf("Quarter(%v): got %v", x, got)
				}
			}
		}
		for _, n := range []int64{-1, wordMost + 1, wordMost + 2, -wordMost, math.MaxInt64, math.MinInt64} {
			x := withField(place, n)
			if got := impl.Quarter(x); got != (impl.Four{}) {
				t.Errorf("Quarter(%v): got %v, want the zero one", x, got)
			}
		}
	}
	worst := impl.Four{A: math.MinInt64, B: math.MaxInt64, C: -1, D: wordMost + 1}
	if got := impl.Quarter(worst); got != (impl.Four{}) {
		t.Errorf("Quarter(%v): got %v", worst, got)
	}
}

// The blocks of RFC 8439, 2.3.2 and A.1, and that of the greatest counter.
func TestBlocksOfKnownKeys(t *testing.T) {
	key, nonce := strings.Repeat("\x00", 32), strings.Repeat("\x00", 12)
	cases := []struct {
		key     string
		counter int64
		nonce   string
		want    string
	}{
		{rfcKey, 1, rfcNonce, "10f1e7e4d13b5915500fdd1fa32071c4c7d1f4c733c068030422aa9ac3d46c4e" +
			"d2826446079faa0914c2d705d98b02a2b5129cd1de164eb9cbd083e8a2503c4e"},
		{key, 0, nonce, "76b8e0ada0f13d90405d6ae55386bd28bdd219b8a08ded1aa836efcc8b770dc7" +
			"da41597c5157488d7724e03fb8d84a376a43b8f41518a11cc387b669b2ee6586"},
		{key, 1, nonce, "9f07e7be5551387a98ba977c732d080dcb0f29a048e3656912c6533e32ee7aed" +
			"29b721769ce64e43d57133b074d839d531ed1f28510afb45ace10a1f4b794d6f"},
		{key[1:] + "\x01", 1, nonce, "3aeb5224ecf849929b9d828db1ced4dd832025e8018b8160b82284f3c949aa5a" +
			"8eca00bbb4a73bdad192b5c42f73f2fd4e273644c8b36125a64addeb006c13a0"},
		{"\x00\xff" + key[2:], 2, nonce, "72d54dfbf12ec44b362692df94137f328fea8da73990265ec1bbbea1ae9af0ca" +
			"13b25aa26cb4a648cb9b9d1be65b2c0924a66c54d545ec1b7374f4872e99f096"},
		{key, 0, nonce[1:] + "\x02", "c2c64d378cd536374ae204b9ef933fcd1a8b2288b3dfa49672ab765b54ee27c7" +
			"8a970e0e955c14f3a88e741b97c286f75f8fc299e8148362fa198a39531bed6d"},
		{rfcKey, wordMost, rfcNonce, "ff2941b8d740f6cbb50936bf997ebd5218cb108dc53f41c64841d0218167430c" +
			"a03b770ca74ccb642a28194d1dedd2ed13151e25ec5d7faeb6d060bfb7e6b146"},
	}
	for _, c := range cases {
		wantHex(t, c.key+c.nonce, impl.Block(c.key, c.counter, c.nonce), c.want)
	}
}

// streamCall is what Block takes, and whether it is right.
type streamCall struct {
	key     string
	counter int64
	nonce   string
	right   bool
}

// streamCalls are right ones, and wrong ones of each argument alone and of several together.
func streamCalls() []streamCall {
	var out []streamCall
	for _, keySize := range []int{0, 31, 32, 33, 64, impl.MaxBytes, impl.MaxBytes + 1} {
		for _, counter := range []int64{0, 1, wordMost, wordMost + 1, wordMost + 2, -1, math.MaxInt64, math.MinInt64} {
			for _, nonceSize := range []int{0, 8, 11, 12, 13, impl.MaxBytes, impl.MaxBytes + 1} {
				right := keySize == 32 && counter >= 0 && counter <= wordMost && nonceSize == 12
				out = append(out, streamCall{sample(keySize), counter, sample(nonceSize), right})
			}
		}
	}
	return out
}

func TestStreamEdges(t *testing.T) {
	for _, c := range streamCalls() {
		block := impl.Block(c.key, c.counter, c.nonce)
		hidden := impl.Cipher(c.key, c.counter, c.nonce, "a text")
		what := []any{len(c.key), c.counter, len(c.nonce)}
		if !c.right && (block != "" || hidden != "") {
			t.Errorf("of a key of %d bytes, counter %d, nonce of %d bytes: got %x and %x", append(what, block, hidden)...)
		}
		if c.right && (len(block) != 64 || hidden != xored("a text", block)) {
			t.Errorf("of a key of %d bytes, counter %d, nonce of %d bytes: got %x and %x", append(what, block, hidden)...)
		}
	}
}

// The texts of RFC 8439, 2.4.2 and A.2, and one of MaxBytes bytes.
func TestCiphersOfKnownTexts(t *testing.T) {
	cases := []struct {
		key     string
		counter int64
		nonce   string
		text    string
		want    string
	}{
		{rfcKey, 1, unhex(t, "000000000000004a00000000"),
			"Ladies and Gentlemen of the class of '99: If I could offer you only one tip for the future, sunscreen would be it.",
			"6e2e359a2568f98041ba0728dd0d6981e97e7aec1d4360c20a27afccfd9fae0bf91b65c5524733ab8f593dabcd62b357" +
				"1639d624e65152ab8f530c359f0861d807ca0dbf500d6a6156a38e088a22b65e52bc514d16ccf806818ce91ab7793736" +
				"5af90bbf74a35be6b40b8eedf2785e42874d"},
		{unhex(t, "1c9240a5eb55d38af333888604f6b5f0473917c1402b80099dca5cbc207075c0"), 42, unhex(t, "000000000000000000000002"),
			"'Twas brillig, and the slithy toves\nDid gyre and gimble in the wabe:\n" +
				"All mimsy were the borogoves,\nAnd the mome raths outgrabe.",
			"62e6347f95ed87a45ffae7426f27a1df5fb69110044c0d73118effa95b01e5cf166d3df2d721caf9b21e5fb14c616871" +
				"fd84c54f9d65b283196c7fe4f60553ebf39c6402c42234e32a356b3e764312a61a5532055716ead6962568f87d3f3f77" +
				"04c6a8d1bcd1bf4d50d6154b6da731b187b58dfd728afa36757a797ac188d1"},
	}
	for _, c := range cases {
		wantHex(t, c.text, impl.Cipher(c.key, c.counter, c.nonce, c.text), c.want)
	}
	wantHex(t, "digest of MaxBytes bytes", digestByLibrary(impl.Cipher(rfcKey, 1, rfcNonce, sample(impl.MaxBytes))),
		"119d1bf859d0f3578182e99af31a646dcc8309f75c3e87a650b3aba4ffae71b2")
}

func TestCipherIsThatOfBlocks(t *testing.T) {
	for _, size := range []int{0, 1, 63, 64, 65, 127, 128, 129, 1000, impl.MaxBytes - 1, impl.MaxBytes} {
		for _, counter := range []int64{0, 1, 7, 1 << 31, wordMost - 1, wordMost} {
			text := sample(size)
			if got := impl.Cipher(rfcKey, counter, rfcNonce, text); got != cipherByBlocks(rfcKey, counter, rfcNonce, text) {
				t.Errorf("Cipher from %d on of %d bytes: not that of blocks", counter, size)
			}
		}
	}
	for _, size := range []int{impl.MaxBytes + 1, impl.MaxBytes + 64, 3 * impl.MaxBytes} {
		if got := impl.Cipher(rfcKey, 1, rfcNonce, sample(size)); got != "" {
			t.Errorf("Cipher of %d bytes: %d bytes", size, len(got))
		}
		if got := impl.Cipher(rfcKey[1:], -1, rfcNonce, sample(size)); got != "" {
			t.Errorf("Cipher of %d bytes and a wrong key and counter: %d bytes", size, len(got))
		}
	}
}

// Promise 4, of a text that is hidden twice, in one part, and hidden whole but told in two parts.
func TestHiddenTwiceIsTheText(t *testing.T) {
	for _, size := range []int{0, 1, 63, 64, 65, 200, 1000, impl.MaxBytes} {
		for _, counter := range []int64{0, 1, wordMost - 1, wordMost} {
			text := sample(size)
			hidden := impl.Cipher(rfcKey, counter, rfcNonce, text)
			if len(hidden) != size || size > 8 && hidden == text {
				t.Errorf("Cipher from %d on of %d bytes hides nothing", counter, size)
			}
			if impl.Cipher(rfcKey, counter, rfcNonce, hidden) != text {
				t.Errorf("Cipher from %d on of %d bytes, twice: not the text", counter, size)
			}
			if size >= 64 {
				next := (counter + 1) % (wordMost + 1)
				told := impl.Cipher(rfcKey, counter, rfcNonce, hidden[:64]) + impl.Cipher(rfcKey, next, rfcNonce, hidden[64:])
				if told != text {
					t.Errorf("Cipher from %d on of %d bytes, told in two parts: not the text", counter, size)
				}
			}
		}
	}
}

// Promise 4, of what stands behind blocks.
func TestBehindABlockTheNextNumber(t *testing.T) {
	text := sample(400)
	for _, counter := range []int64{0, 1, 1 << 16, wordMost - 3, wordMost - 1, wordMost} {
		whole := impl.Cipher(rfcKey, counter, rfcNonce, text)
		for cut := 0; cut <= len(text); cut += 64 {
			next := (counter + int64(cut/64)) % (wordMost + 1)
			parts := impl.Cipher(rfcKey, counter, rfcNonce, text[:cut]) + impl.Cipher(rfcKey, next, rfcNonce, text[cut:])
			if parts != whole {
				t.Errorf("Cipher from %d on, parted at %d: not the whole", counter, cut)
			}
		}
	}
	past := impl.Cipher(rfcKey, wordMost, rfcNonce, sample(200))
	wantHex(t, "digest of what goes on past the greatest counter", digestByLibrary(past),
		"50f8d722b562464b55290c09771a4278604205ceff92989f1c5145fdc357bca7")
}

func TestBoxesOfKnownTexts(t *testing.T) {
	wantHex(t, "text", impl.SealBox("k", 7, "text"), "b1852f6dc4170bcf11b01719f9b9f76c0c48cecb")
	wantHex(t, "none", impl.SealBox("k", 0, ""), "2bda2ab1e981e0a25129924d280cecc8")
	wantHex(t, "memory", impl.SealBox(sample(64), impl.MaxTime, "a gate with a memory"),
		"e6e7787886a39c5063c6f0ffdb67eccafc20022293cc94a5c77a9bffc1654060defa8b53")
	wantHex(t, "digest of the greatest box", digestByLibrary(impl.SealBox(sample(64), impl.MaxTime, sample(1000))),
		"4f5d479de9c4da595fea1854584e0131b8951ae4ba99cdb8f67015d525711d10")
}

// Promise 5.
func TestTextComesOutOfItsBox(t *testing.T) {
	for _, keySize := range []int{1, 2, 32, 63, 64} {
		for _, number := range []int64{0, 1, 255, 256, 65536, impl.MaxTime - 1, impl.MaxTime} {
			for _, size := range []int{0, 1, 15, 16, 63, 64, 65, 999, 1000} {
				key, text := sample(keySize), sample(size)
				box := impl.SealBox(key, number, text)
				if box != boxByLibrary(key, number, text) {
					t.Errorf("SealBox of a key of %d bytes, %d, a text of %d bytes: not that of macs and blocks", keySize, number, size)
				}
				wantOpen(t, key, number, box, impl.TextOut{Text: text})
			}
		}
	}
}

func TestSealBoxFaults(t *testing.T) {
	for _, keySize := range []int{0, 1, 64, 65, impl.MaxBytes, impl.MaxBytes + 1} {
		for _, number := range []int64{-1, 0, impl.MaxTime, impl.MaxTime + 1, math.MaxInt64, math.MinInt64} {
			for _, size := range []int{0, 1000, 1001, impl.MaxBytes, impl.MaxBytes + 1} {
				right := keySize >= 1 && keySize <= 64 && number >= 0 && number <= impl.MaxTime && size <= 1000
				got := impl.SealBox(sample(keySize), number, sample(size))
				if right && len(got) != size+16 || !right && got != "" {
					t.Errorf("SealBox of a key of %d bytes, %d, a text of %d bytes: %d bytes", keySize, number, size, len(got))
				}
			}
		}
	}
}

// openCode is the first fault of what is handed to OpenBox, of a box that is no box.
func openCode(keySize int, number int64, boxSize int) int64 {
	switch {
	case keySize > impl.MaxBytes || boxSize > impl.MaxBytes:
		return impl.ErrSize
	case keySize < 1 || keySize > 64 || number < 0 || number > impl.MaxTime:
		return impl.ErrForm
	case boxSize < 16:
		return impl.ErrShort
	}
	return impl.ErrSum
}

func TestOpenBoxFaultsInOrder(t *testing.T) {
	for _, keySize := range []int{0, 1, 64, 65, impl.MaxBytes, impl.MaxBytes + 1} {
		for _, number := range []int64{-1, 0, impl.MaxTime, impl.MaxTime + 1, math.MaxInt64, math.MinInt64} {
			for _, boxSize := range []int{0, 1, 15, 16, 17, 1016, 1017, impl.MaxBytes, impl.MaxBytes + 1} {
				want := impl.TextOut{Code: openCode(keySize, number, boxSize)}
				wantOpen(t, sample(keySize), number, sample(boxSize), want)
			}
		}
	}
}

func TestTurnedBoxIsRefused(t *testing.T) {
	sum := impl.TextOut{Code: impl.ErrSum}
	for _, size := range []int{0, 1, 30, 1000} {
		box := impl.SealBox("key", 9, sample(size))
		for at := range len(box) {
			for _, turn := range []byte{1, 128, 255} {
				turned := []byte(box)
				turned[at] ^= turn
				wantOpen(t, "key", 9, string(turned), sum)
			}
		}
		wantOpen(t, "key", 9, box+"\x00", sum)
		wantOpen(t, "key", 9, "\x00"+box, sum)
		wantOpen(t, "key", 9, box, impl.TextOut{Text: sample(size)})
	}
	box := impl.SealBox("key", 9, "a text")
	wantOpen(t, "key", 9, box[1:], sum)
	wantOpen(t, "key", 9, box[:len(box)-1], sum)
	wantOpen(t, "key", 9, box[len(box)-16:], sum)
	wantOpen(t, "key", 9, box[len(box)-15:], impl.TextOut{Code: impl.ErrShort})
}

func TestAnotherKeyOrNumberIsRefused(t *testing.T) {
	sum := impl.TextOut{Code: impl.ErrSum}
	for _, text := range []string{"", "a text", sample(1000)} {
		box := impl.SealBox("key", 9, text)
		for _, key := range []string{"k", "kez", "Key", "keyy", "ke", sample(64)} {
			wantOpen(t, key, 9, box, sum)
		}
		for _, number := range []int64{0, 8, 10, 9 + 256, 9 + 65536, impl.MaxTime} {
			wantOpen(t, "key", number, box, sum)
			if impl.SealBox("key", number, text) == box {
				t.Errorf("the numbers 9 and %d have one box", number)
			}
		}
	}
}

// A box is one however long its text is: SealBox makes none of more than 1000 bytes, but OpenBox opens it.
func TestLongBoxOpens(t *testing.T) {
	for _, size := range []int{1001, 2000, impl.MaxBytes - 17, impl.MaxBytes - 16} {
		box := boxByLibrary("key", 9, sample(size))
		wantOpen(t, "key", 9, box, impl.TextOut{Text: sample(size)})
		for _, at := range []int{0, size - 1, size, len(box) - 1} {
			turned := []byte(box)
			turned[at] ^= 1
			wantOpen(t, "key", 9, string(turned), impl.TextOut{Code: impl.ErrSum})
		}
	}
	more := boxByLibrary("key", 9, sample(impl.MaxBytes-15))
	wantOpen(t, "key", 9, more, impl.TextOut{Code: impl.ErrSize})
}

func FuzzStream(f *testing.F) {
	f.Add(rfcKey, int64(1), rfcNonce, "a text")
	f.Add("k", int64(7), "", "")
	f.Add(rfcKey, int64(wordMost), rfcNonce, sample(200))
	f.Fuzz(func(t *testing.T, key string, number int64, nonce string, text string) {
		hidden := impl.Cipher(key, number, nonce, text)
		if impl.Block(key, number, nonce) == "" || len(text) > impl.MaxBytes {
			if hidden != "" {
				t.Errorf("Cipher(%q, %d, %q, %q): got %q", key, number, nonce, text, hidden)
			}
		} else if len(hidden) != len(text) || impl.Cipher(key, number, nonce, hidden) != text {
			t.Errorf("Cipher(%q, %d, %q, %q): twice is not the text", key, number, nonce, text)
		}
		if box := impl.SealBox(key, number, text); box != "" {
			wantOpen(t, key, number, box, impl.TextOut{Text: text})
		}
		if got := impl.OpenBox(key, number, text); got.Code != impl.OK && got.Text != "" || got.At != 0 {
			t.Errorf("OpenBox(%q, %d, %q): got %+v", key, number, text, got)
		}
	})
}
