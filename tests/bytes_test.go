package tests

import (
	"hash/crc32"
	"math"
	"strings"
	"testing"

	"loop.example/g00455/impl"
)

// sample is a text of that many bytes in which no short piece repeats at once.
func sample(size int) string {
	out := make([]byte, size)
	for i := range out {
		out[i] = byte(i*7 + i/256*13)
	}
	return string(out)
}

// edgeNums are the numbers at which the count of bytes, or the sign, turns.
func edgeNums() []int64 {
	out := []int64{0, math.MaxInt64, math.MinInt64}
	for shift := range 63 {
		power := int64(1) << shift
		for near := int64(-2); near <= 2; near++ {
			out = append(out, power+near, -power+near)
		}
	}
	return out
}

func wantNum(t *testing.T, text string, at int64, want impl.NumOut) {
	t.Helper()
	if got := impl.GetNum(text, at); got != want {
		t.Errorf("GetNum(%.40q, %d): got %+v, want %+v", text, at, got, want)
	}
}

func wantText(t *testing.T, text string, at int64, want impl.TextOut) {
	t.Helper()
	if got := impl.GetText(text, at); got != want {
		t.Errorf("GetText(%.40q, %d): got %.80q At %d Code %d, want %.80q At %d Code %d",
			text, at, got.Text, got.At, got.Code, want.Text, want.At, want.Code)
	}
}

func wantUnseal(t *testing.T, text string, want impl.TextOut) {
	t.Helper()
	if got := impl.Unseal(text); got != want {
		t.Errorf("Unseal(%.40q): got %.80q At %d Code %d, want %.80q At %d Code %d",
			text, got.Text, got.At, got.Code, want.Text, want.At, want.Code)
	}
}

func TestCodesAndLimits(t *testing.T) {
	got := []int{impl.OK, impl.ErrForm, impl.ErrSize, impl.ErrSyntax, impl.ErrShort, impl.ErrSum, impl.ErrNone,
		impl.ErrThere, impl.ErrRange, impl.ErrFull, impl.ErrState, impl.ErrDenied, impl.ErrOld}
	for i, code := range got {
		if code != i {
			t.Errorf("code %d: got %d", i, code)
		}
	}
	if impl.MaxBytes != 8000 || impl.MaxList != 400 || impl.MaxTime != 1000000 {
		t.Errorf("limits: %d %d %d", impl.MaxBytes, impl.MaxList, impl.MaxTime)
	}
}

func TestPutNumBytes(t *testing.T) {
	full := strings.Repeat("\xff", 9) + "\x01"
	cases := []struct {
		n    int64
		want string
	}{
		{0, "\x00"}, {-1, "\x01"}, {1, "\x02"}, {-2, "\x03"},
		{63, "\x7e"}, {-64, "\x7f"}, {64, "\x80\x01"}, {-65, "\x81\x01"},
		{8191, "\xfe\x7f"}, {-8192, "\xff\x7f"}, {8192, "\x80\x80\x01"},
		{1<<62 - 1, "\xfe" + strings.Repeat("\xff", 7) + "\x7f"},
		{1 << 62, strings.Repeat("\x80", 9) + "\x01"},
		{math.MaxInt64, "\xfe" + full[1:]}, {math.MinInt64, full},
	}
	for _, c := range cases {
		if got := impl.PutNum(c.n); got != c.want {
			t.Errorf("PutNum(%d): got %q, want %q", c.n, got, c.want)
		}
	}
}

// Promise 1, of numbers.
func TestNumbersComeBack(t *testing.T) {
	for _, n := range edgeNums() {
		put := impl.PutNum(n)
		size := int64(len(put))
		if size < 1 || size > 10 {
			t.Errorf("PutNum(%d) has %d bytes", n, size)
		}
		wantNum(t, put, 0, impl.NumOut{N: n, At: size})
		wantNum(t, "\x80\xff"+put+"\x80", 2, impl.NumOut{N: n, At: size + 2})
		for cut := range len(put) {
			wantNum(t, put[:cut], 0, impl.NumOut{Code: impl.ErrShort})
		}
	}
}

func TestGetNumFaults(t *testing.T) {
	nine := strings.Repeat("\x80", 9)
	cases := []struct {
		text string
		at   int64
		code int64
	}{
		{"\x00", -1, impl.ErrForm}, {"", -1, impl.ErrForm}, {"\x00", math.MinInt64, impl.ErrForm},
		{"", 0, impl.ErrShort}, {"\x00", 1, impl.ErrShort}, {"\x00", 2, impl.ErrShort},
		{"\x00", math.MaxInt64, impl.ErrShort},
		{"\x80", 0, impl.ErrShort}, {"\x00\xff\xff", 1, impl.ErrShort}, {nine, 0, impl.ErrShort},
		{nine + "\x02", 0, impl.ErrSyntax}, {nine + "\x7f", 0, impl.ErrSyntax},
		{nine + "\x80", 0, impl.ErrSyntax}, {nine + "\x81", 0, impl.ErrSyntax},
		{nine + "\xff\xff\x00", 0, impl.ErrSyntax},
		{"\x80\x00", 0, impl.ErrSyntax}, {"\xff\x80\x00", 0, impl.ErrSyntax}, {nine + "\x00", 0, impl.ErrSyntax},
		{strings.Repeat("\x00", impl.MaxBytes+1), 0, impl.ErrSize},
		{strings.Repeat("\x80", impl.MaxBytes+1), -1, impl.ErrSize},
	}
	for _, c := range cases {
		wantNum(t, c.text, c.at, impl.NumOut{Code: c.code})
	}
	wantNum(t, strings.Repeat("\x80", impl.MaxBytes-1)+"\x01", impl.MaxBytes-2, impl.NumOut{N: 64, At: impl.MaxBytes})
}

// What is read is written so: of all texts of two bytes, and of three at the edges of a byte.
func TestGetNumTakesOneWriting(t *testing.T) {
	thirds := []byte{0, 1, 127, 128, 255}
	for first := range 256 {
		for second := range 256 {
			for _, third := range thirds {
				text := string([]byte{byte(first), byte(second), third})
				got := impl.GetNum(text, 0)
				if got.Code == impl.OK && impl.PutNum(got.N) != text[:got.At] {
					t.Fatalf("GetNum(%q): %+v, but it is written %q", text, got, impl.PutNum(got.N))
				}
				if got.Code != impl.OK && (got.N != 0 || got.At != 0) {
					t.Fatalf("GetNum(%q): %+v beside a code", text, got)
				}
			}
		}
	}
}

// Promise 1, of texts.
func TestTextsComeBack(t *testing.T) {
	for _, size := range []int{0, 1, 2, 63, 64, 200, impl.MaxBytes - 3, impl.MaxBytes - 2} {
		text := sample(size)
		put := impl.PutText(text)
		if put != impl.PutNum(int64(size))+text {
			t.Errorf("PutText of %d bytes: not its length and it", size)
		}
		end := int64(len(put))
		wantText(t, put, 0, impl.TextOut{Text: text, At: end})
		if len(put) <= impl.MaxBytes-3 {
			wantText(t, "\x80\x80"+put+"x", 2, impl.TextOut{Text: text, At: end + 2})
		}
		wantText(t, put[:end-1], 0, impl.TextOut{Code: impl.ErrShort})
	}
}

func TestTextsAtTheLimit(t *testing.T) {
	most := sample(impl.MaxBytes)
	if got := impl.PutText(most); got != "\x80\x7d"+most {
		t.Errorf("PutText of MaxBytes bytes: %d bytes", len(got))
	}
	if got := impl.PutText(most + "x"); got != "" {
		t.Errorf("PutText of more than MaxBytes bytes: %d bytes", len(got))
	}
	wantText(t, impl.PutText(most), 0, impl.TextOut{Code: impl.ErrSize})
	wantText(t, impl.PutText(sample(impl.MaxBytes-1)), 0, impl.TextOut{Code: impl.ErrSize})
}

func TestGetTextFaults(t *testing.T) {
	cases := []struct {
		text string
		at   int64
		code int64
	}{
		{"\x02a", -1, impl.ErrForm}, {"\x02a", math.MinInt64, impl.ErrForm},
		{"", 0, impl.ErrShort}, {"\x02a", 2, impl.ErrShort}, {"\x02a", 3, impl.ErrShort},
		{"\x02a", math.MaxInt64, impl.ErrShort}, {"\x82", 0, impl.ErrShort},
		{"\x82\x00a", 0, impl.ErrSyntax}, {strings.Repeat("\x80", 9) + "\x02", 0, impl.ErrSyntax},
		{"\x01", 0, impl.ErrSyntax}, {"\x01a", 0, impl.ErrSyntax},
		{impl.PutNum(impl.MaxBytes + 1), 0, impl.ErrSyntax}, {impl.PutNum(math.MaxInt64), 0, impl.ErrSyntax},
		{impl.PutNum(math.MinInt64) + "a", 0, impl.ErrSyntax},
		{impl.PutNum(impl.MaxBytes) + "a", 0, impl.ErrShort}, {"\x04a", 0, impl.ErrShort}, {"\x02", 0, impl.ErrShort},
		{strings.Repeat("\x00", impl.MaxBytes+1), 0, impl.ErrSize},
		{strings.Repeat("\x00", impl.MaxBytes+1), -1, impl.ErrSize},
	}
	for _, c := range cases {
		wantText(t, c.text, c.at, impl.TextOut{Code: c.code})
	}
	wantText(t, strings.Repeat("\x00", impl.MaxBytes), impl.MaxBytes-1, impl.TextOut{At: impl.MaxBytes})
}

func TestNames(t *testing.T) {
	most := "a" + strings.Repeat("z_09", 4) + "abc"
	for _, name := range []string{"a", "z", "a_9", "a_", "m0", "ann", most} {
		if !impl.NameRight(name) {
			t.Errorf("%q is a name", name)
		}
	}
	wrong := []string{"", "_a", "0a", "A", "aB", "a b", "a-b", "a\n", "a\x00", " a", "a ", "é", "aé", "a`", "a{", "a/", "a:",
		"`", "{", most + "x", strings.Repeat("a", impl.MaxBytes), strings.Repeat("a", impl.MaxBytes+1)}
	for _, name := range wrong {
		if impl.NameRight(name) {
			t.Errorf("%.30q is no name", name)
		}
	}
	for b := range 256 {
		small := b >= 'a' && b <= 'z'
		if impl.NameRight(string([]byte{byte(b)})) != small {
			t.Errorf("byte %d at the beginning", b)
		}
		if impl.NameRight(string([]byte{'a', byte(b)})) != (small || b >= '0' && b <= '9' || b == '_') {
			t.Errorf("byte %d within", b)
		}
	}
}

func TestCrc(t *testing.T) {
	for _, size := range []int{0, 1, 2, 9, 255, 1000, impl.MaxBytes} {
		text := sample(size)
		if got, want := impl.Crc(text), int64(crc32.ChecksumIEEE([]byte(text))); got != want {
			t.Errorf("Crc of %d bytes: got %d, want %d", size, got, want)
		}
	}
	if got := impl.Crc("123456789"); got != 0xCBF43926 {
		t.Errorf("Crc of the digits: %x", got)
	}
	if got := impl.Crc(sample(impl.MaxBytes + 1)); got != 0 {
		t.Errorf("Crc of more than MaxBytes bytes: %d", got)
	}
}

// Promise 2, of a CRC.
func TestCrcGoesOn(t *testing.T) {
	text := sample(300)
	whole := impl.Crc(text)
	for cut := 0; cut <= len(text); cut++ {
		if got := impl.CrcMore(impl.Crc(text[:cut]), text[cut:]); got != whole {
			t.Errorf("cut at %d: got %d, want %d", cut, got, whole)
		}
	}
	long := sample(2 * impl.MaxBytes)
	got := impl.CrcMore(impl.Crc(long[:impl.MaxBytes]), long[impl.MaxBytes:])
	if want := int64(crc32.ChecksumIEEE([]byte(long))); got != want {
		t.Errorf("of two of MaxBytes bytes: got %d, want %d", got, want)
	}
}

func TestCrcMoreEdges(t *testing.T) {
	most := int64(math.MaxUint32)
	for _, crc := range []int64{0, 1, 1 << 31, most} {
		if got := impl.CrcMore(crc, ""); got != crc {
			t.Errorf("CrcMore(%d, none): got %d", crc, got)
		}
		want := int64(crc32.Update(uint32(crc), crc32.IEEETable, []byte("ab")))
		if got := impl.CrcMore(crc, "ab"); got != want {
			t.Errorf("CrcMore(%d, ab): got %d, want %d", crc, got, want)
		}
		if got := impl.CrcMore(crc, sample(impl.MaxBytes+1)); got != 0 {
			t.Errorf("CrcMore(%d, too long): got %d", crc, got)
		}
	}
	for _, crc := range []int64{-1, most + 1, most + 2, math.MinInt64, math.MaxInt64} {
		if got := impl.CrcMore(crc, "ab"); got != 0 {
			t.Errorf("CrcMore(%d, ab): got %d, want 0", crc, got)
		}
	}
}

// Promise 2, of a sealed text.
func TestSealedTextComesBack(t *testing.T) {
	if got := impl.Seal("123456789"); got != "123456789\x26\x39\xf4\xcb" {
		t.Errorf("Seal of the digits: %q", got)
	}
	for _, size := range []int{0, 1, 4, 5, 100, impl.MaxBytes - 5, impl.MaxBytes - 4} {
		text := sample(size)
		sealed := impl.Seal(text)
		if len(sealed) != size+4 || sealed[:size] != text {
			t.Errorf("Seal of %d bytes: %d bytes", size, len(sealed))
		}
		wantUnseal(t, sealed, impl.TextOut{Text: text})
	}
	for _, size := range []int{impl.MaxBytes - 3, impl.MaxBytes, impl.MaxBytes + 1} {
		if got := impl.Seal(sample(size)); got != "" {
			t.Errorf("Seal of %d bytes: %d bytes", size, len(got))
		}
	}
}

// Promise 2, of a byte that is turned.
func TestTurnedByteIsRefused(t *testing.T) {
	for _, size := range []int{0, 1, 30} {
		sealed := impl.Seal(sample(size))
		for at := range len(sealed) {
			for turn := 1; turn < 256; turn++ {
				turned := []byte(sealed)
				turned[at] ^= byte(turn)
				wantUnseal(t, string(turned), impl.TextOut{Code: impl.ErrSum})
			}
		}
	}
	most := []byte(impl.Seal(sample(impl.MaxBytes - 4)))
	for _, at := range []int{0, 4000, impl.MaxBytes - 5, impl.MaxBytes - 4, impl.MaxBytes - 1} {
		most[at] ^= 1
		wantUnseal(t, string(most), impl.TextOut{Code: impl.ErrSum})
		most[at] ^= 1
	}
}

func TestUnsealFaults(t *testing.T) {
	for size := range 4 {
		wantUnseal(t, strings.Repeat("\x00", size), impl.TextOut{Code: impl.ErrShort})
	}
	wantUnseal(t, "\x00\x00\x00\x00", impl.TextOut{})
	wantUnseal(t, "\x00\x00\x00\x01", impl.TextOut{Code: impl.ErrSum})
	wantUnseal(t, "123456789\xcb\xf4\x39\x26", impl.TextOut{Code: impl.ErrSum})
	wantUnseal(t, impl.Seal("ab")+"x", impl.TextOut{Code: impl.ErrSum})
	wantUnseal(t, impl.Seal("ab")[1:], impl.TextOut{Code: impl.ErrSum})
	wantUnseal(t, sample(impl.MaxBytes), impl.TextOut{Code: impl.ErrSum})
	wantUnseal(t, sample(impl.MaxBytes+1), impl.TextOut{Code: impl.ErrSize})
}

func FuzzBytes(f *testing.F) {
	f.Add("", int64(0))
	f.Add("\x04ab", int64(0))
	f.Add("\x80\x00", int64(1))
	f.Fuzz(func(t *testing.T, text string, at int64) {
		if n := impl.GetNum(text, at); n.Code == impl.OK && impl.PutNum(n.N) != text[at:n.At] {
			t.Errorf("GetNum(%q, %d): %+v", text, at, n)
		}
		if got := impl.GetText(text, at); got.Code == impl.OK && impl.PutText(got.Text) != text[at:got.At] {
			t.Errorf("GetText(%q, %d): %+v", text, at, got)
		}
		if len(text) <= impl.MaxBytes-4 {
			wantUnseal(t, impl.Seal(text), impl.TextOut{Text: text})
		}
		if got := impl.Unseal(text); got.Code == impl.OK && impl.Seal(got.Text) != text {
			t.Errorf("Unseal(%q): %+v", text, got)
		}
	})
}
