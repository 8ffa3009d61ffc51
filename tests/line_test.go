package tests

import (
	"fmt"
	"math"
	"slices"
	"strings"
	"testing"

	"loop.example/g00455/impl"
)

// typedByText is what Type tells by the document's words: what stands ahead of At and what stands behind it are two
// texts here.
func typedByText(e impl.Edit, keys string) impl.EditOut {
	if len(keys) > 8000 {
		return impl.EditOut{Code: impl.ErrSize}
	}
	if !editByText(e) {
		return impl.EditOut{Code: impl.ErrForm}
	}
	ahead, behind := e.Text[:e.At], e.Text[e.At:]
	var lines []string
	for _, key := range []byte(keys) {
		if key == 13 {
			lines = append(lines, ahead+behind)
		}
		ahead, behind = keyByText(ahead, behind, key)
	}
	return impl.EditOut{Edit: impl.Edit{Text: ahead + behind, At: int64(len(ahead))}, Lines: lines}
}

func keyByText(ahead string, behind string, key byte) (string, string) {
	first, last := len(ahead) == 0, len(behind) == 0
	switch {
	case key >= 32 && key <= 126 && len(ahead)+len(behind) < 60:
		return ahead + string(key), behind
	case (key == 127 || key == 8) && !first:
		return ahead[:len(ahead)-1], behind
	case key == 21:
		return "", behind
	case key == 23:
		return ahead[:startByText(ahead)], behind
	case key == 1:
		return "", ahead + behind
	case key == 5:
		return ahead + behind, ""
	case key == 2 && !first:
		return ahead[:len(ahead)-1], ahead[len(ahead)-1:] + behind
	case key == 6 && !last:
		return ahead + behind[:1], behind[1:]
	case key == 13 || key == 3:
		return "", ""
	}
	return ahead, behind
}

// startByText is where the last word of the text begins, byte by byte.
func startByText(ahead string) int {
	at := len(ahead)
	for at > 0 && ahead[at-1] == ' ' {
		at--
	}
	for at > 0 && ahead[at-1] != ' ' {
		at--
	}
	return at
}

func editByText(e impl.Edit) bool {
	for _, b := range []byte(e.Text) {
		if b < 32 || b > 126 {
			return false
		}
	}
	return len(e.Text) <= 60 && e.At >= 0 && e.At <= int64(len(e.Text))
}

func sameEditOut(a impl.EditOut, b impl.EditOut) bool {
	return a.Edit == b.Edit && a.Code == b.Code && slices.Equal(a.Lines, b.Lines)
}

func wantTyped(t *testing.T, e impl.Edit, keys string, want impl.EditOut) {
	t.Helper()
	if got := impl.Type(e, keys); !sameEditOut(got, want) {
		t.Errorf("Type of %.80q At %d and %d keys %.80q: got %.300q, want %.300q", e.Text, e.At, len(keys), keys, fmt.Sprint(got), fmt.Sprint(want))
	}
}

// shown is the edit that is shown so: At is where its `|` stands.
func shown(text string) impl.Edit {
	ahead, behind, _ := strings.Cut(text, "|")
	return impl.Edit{Text: ahead + behind, At: int64(len(ahead))}
}

// editsOf are the right edits of that text, with At at each place.
func editsOf(text string) []impl.Edit {
	var out []impl.Edit
	for at := range len(text) + 1 {
		out = append(out, impl.Edit{Text: text, At: int64(at)})
	}
	return out
}

// plainText is a text of so many bytes, of each of those that come in.
func plainText(size int) string {
	out := make([]byte, size)
	for i := range out {
		out[i] = byte(32 + (i*7+i/95*3)%95)
	}
	return string(out)
}

// editedTexts are right texts of words and blanks.
func editedTexts() []string {
	return []string{
		"", " ", "a", "ab", "abc", "  ", "   ", " a", "a ", "a b", "ab cd", "ab  cd", " ab ", "  ab  cd  ", "a b c", "|", "|a|", "~!", "rm -rf /",
		strings.Repeat("a", 59), strings.Repeat("a", 60), strings.Repeat(" ", 60), strings.Repeat("ab ", 20), plainText(59), plainText(60),
	}
}

// keysOfUse are those that do something but come in.
func keysOfUse() string {
	return "\x7f\b\x15\x17\x01\x05\x02\x06\r\x03"
}

// edgePlaces are the places about a text's beginning and end, and the farthest ones.
func edgePlaces(size int) []int64 {
	n := int64(size)
	return []int64{math.MinInt64, math.MinInt64 + 1, math.MinInt32, -61, -2, -1, 0, 1, n - 1, n, n + 1, n + 2, 59, 60, 61, 255, 256, 1 << 31, 1 << 32, math.MaxInt64 - 1, math.MaxInt64}
}

// wrongEdits are not right, each in one way.
func wrongEdits() []impl.Edit {
	out := []impl.Edit{{At: -1}, {At: 1}, {Text: "abc", At: -1}, {Text: "abc", At: 4}, {Text: "abc", At: math.MaxInt64}, {Text: "abc", At: math.MinInt64}}
	for _, size := range []int{61, 62, 120, impl.MaxBytes, impl.MaxBytes + 1} {
		for _, at := range []int64{0, 1, 60, int64(size)} {
			out = append(out, impl.Edit{Text: strings.Repeat("a", size), At: at})
		}
	}
	for _, bad := range []string{"\x00", "\t", "\n", "\r", "\x1f", "\x7f", "\x80", "\xff", "\u00e9", "\u20ac", "\U0001f600", "\ufffd"} {
		out = append(out, impl.Edit{Text: bad}, impl.Edit{Text: "ab" + bad, At: 2}, impl.Edit{Text: bad + "ab", At: 1}, impl.Edit{Text: strings.Repeat("a", 56) + bad})
	}
	return out
}

func TestLineLimit(t *testing.T) {
	if impl.MaxLine != 60 {
		t.Errorf("MaxLine: got %d", impl.MaxLine)
	}
}

func TestEditRightOfEachPlace(t *testing.T) {
	for _, text := range append(editedTexts(), strings.Repeat("a", 61), strings.Repeat("a", impl.MaxBytes), strings.Repeat("a", impl.MaxBytes+1)) {
		for _, at := range edgePlaces(len(text)) {
			e := impl.Edit{Text: text, At: at}
			if got := impl.EditRight(e); got != editByText(e) {
				t.Errorf("EditRight of %.80q (%d bytes) At %d: got %t", text, len(text), at, got)
			}
		}
	}
}

func TestEditRightOfEachByte(t *testing.T) {
	for b := range 256 {
		right := b >= 32 && b <= 126
		for _, size := range []int{1, 2, 3, 60} {
			for _, at := range []int{0, size / 2, size - 1} {
				text := strings.Repeat("a", at) + string([]byte{byte(b)}) + strings.Repeat("a", size-at-1)
				if got := impl.EditRight(impl.Edit{Text: text}); got != right {
					t.Errorf("EditRight of %q: got %t", text, got)
				}
			}
		}
	}
}

func TestEditRightOfEachSize(t *testing.T) {
	for size := range 130 {
		for _, at := range []int64{0, int64(size)} {
			if got := impl.EditRight(impl.Edit{Text: plainText(size), At: at}); got != (size <= 60) {
				t.Errorf("EditRight of %d bytes At %d: got %t", size, at, got)
			}
		}
	}
	for _, e := range wrongEdits() {
		if impl.EditRight(e) {
			t.Errorf("EditRight of %.80q (%d bytes) At %d: got true", e.Text, len(e.Text), e.At)
		}
	}
}

func TestTypeOfKnownKeys(t *testing.T) {
	cases := []struct {
		from, keys, to string
		lines          []string
	}{
		{"|", "", "|", nil},
		{"a|b", "", "a|b", nil},
		{"|", "ab cd", "ab cd|", nil},
		{"|", "ab cd\r", "|", []string{"ab cd"}},
		{"|", "ls\rwho am i\rx", "x|", []string{"ls", "who am i"}},
		{"|", "\r", "|", []string{""}},
		{"|", "\r\r\r", "|", []string{"", "", ""}},
		{"|", "\ra\r\r", "|", []string{"", "a", ""}},
		{"a|b", "\r", "|", []string{"ab"}},
		{"|ab", "\rx", "x|", []string{"ab"}},
		{"|", " a \r", "|", []string{" a "}},
		{"|", "\n", "|", nil},
		{"|", "ab\r\nc\r\n", "|", []string{"ab", "c"}},

		{"|", "\x7f", "|", nil},
		{"|abc", "\x7f", "|abc", nil},
		{"a|bc", "\x7f", "|bc", nil},
		{"ab|c", "\x7f", "a|c", nil},
		{"abc|", "\x7f", "ab|", nil},
		{"abc|", "\x7f\x7f\x7f\x7f", "|", nil},
		{"|abc", "\b", "|abc", nil},
		{"ab|c", "\b", "a|c", nil},
		{"abc|", "\b\b", "a|", nil},
		{"a  |", "\b", "a |", nil},

		{"|abc", "\x15", "|abc", nil},
		{"ab|c", "\x15", "|c", nil},
		{"abc|", "\x15", "|", nil},
		{"ab cd |ef", "\x15", "|ef", nil},

		{"|abc", "\x17", "|abc", nil},
		{"abc|", "\x17", "|", nil},
		{"ab cd|", "\x17", "ab |", nil},
		{"ab cd |", "\x17", "ab |", nil},
		{"ab cd   |", "\x17", "ab |", nil},
		{"ab  cd|", "\x17", "ab  |", nil},
		{"ab cd|", "\x17\x17", "|", nil},
		{"ab  cd|", "\x17\x17", "|", nil},
		{"   |", "\x17", "|", nil},
		{"  |  ", "\x17", "|  ", nil},
		{"   ab|", "\x17", "   |", nil},
		{"   ab|", "\x17\x17", "|", nil},
		{"ab c|d", "\x17", "ab |d", nil},
		{"ab c|d ef", "\x17", "ab |d ef", nil},
		{"a|b cd", "\x17", "|b cd", nil},
		{"ab |cd", "\x17", "|cd", nil},
		{"ab| cd", "\x17", "| cd", nil},
		{"ab-cd_ef.gh|", "\x17", "|", nil},

		{"|abc", "\x01", "|abc", nil},
		{"a|bc", "\x01", "|abc", nil},
		{"abc|", "\x01x", "x|abc", nil},
		{"|abc", "\x05", "abc|", nil},
		{"a|bc", "\x05", "abc|", nil},
		{"abc|", "\x05", "abc|", nil},
		{"|abc", "\x05x", "abcx|", nil},
		{"|abc", "\x02", "|abc", nil},
		{"a|bc", "\x02", "|abc", nil},
		{"abc|", "\x02", "ab|c", nil},
		{"abc|", "\x02\x02\x02\x02", "|abc", nil},
		{"|abc", "\x06", "a|bc", nil},
		{"ab|c", "\x06", "abc|", nil},
		{"abc|", "\x06", "abc|", nil},
		{"|", "\x06\x02\x01\x05", "|", nil},

		{"|abc", "\x03", "|", nil},
		{"a|bc", "\x03", "|", nil},
		{"abc|", "\x03x", "x|", nil},
		{"|", "ab\rcd\x03ef\r", "|", []string{"ab", "ef"}},

		{"a|c", "b", "ab|c", nil},
		{"a|d", "bc", "abc|d", nil},
		{"|b", "a", "a|b", nil},
		{"ab|cd", "||", "ab|||cd", nil},
		{"ab|", "\x02X\x06Y\x01Z\x05.\r", "|", []string{"ZaXbY."}},
		{"|", "ab cd\x17X\x01Y\x05\x7f", "Yab |", nil},
	}
	for _, c := range cases {
		to := shown(c.to)
		if c.to == "ab|||cd" {
			to = impl.Edit{Text: "ab||cd", At: 4}
		}
		wantTyped(t, shown(c.from), c.keys, impl.EditOut{Edit: to, Lines: c.lines})
	}
}

// Each of the 256 bytes as a key, with At at each place of each text.
func TestTypeOfEachKey(t *testing.T) {
	for _, text := range editedTexts() {
		for _, e := range editsOf(text) {
			for b := range 256 {
				key := string([]byte{byte(b)})
				wantTyped(t, e, key, typedByText(e, key))
			}
		}
	}
}

// Keys that count for nothing, by a list of their own.
func TestTypeOfKeysThatCountForNothing(t *testing.T) {
	for b := range 256 {
		key := string([]byte{byte(b)})
		if b >= 32 && b <= 126 || strings.Contains(keysOfUse(), key) {
			continue
		}
		wantTyped(t, shown("a|b"), strings.Repeat(key, 3), impl.EditOut{Edit: shown("a|b")})
		wantTyped(t, impl.Edit{}, "x"+key+"y"+key+"\r", impl.EditOut{Lines: []string{"xy"}})
	}
	for _, runes := range []string{"\u00e9", "\u20ac", "\U0001f600", "\ufffd", "\u0120\u0161"} {
		wantTyped(t, shown("a|b"), runes, impl.EditOut{Edit: shown("a|b")})
	}
}

func TestTypeOfEachKeyThatComesIn(t *testing.T) {
	for b := 32; b <= 126; b++ {
		key := string([]byte{byte(b)})
		wantTyped(t, impl.Edit{}, key, impl.EditOut{Edit: impl.Edit{Text: key, At: 1}})
		wantTyped(t, impl.Edit{Text: "ab", At: 1}, key, impl.EditOut{Edit: impl.Edit{Text: "a" + key + "b", At: 2}})
		wantTyped(t, impl.Edit{}, key+key+"\r", impl.EditOut{Lines: []string{key + key}})
	}
}

func TestTypeWhereThereIsNoMoreRoom(t *testing.T) {
	full := plainText(60)
	for _, e := range editsOf(full) {
		for b := 32; b <= 126; b++ {
			wantTyped(t, e, string([]byte{byte(b)}), impl.EditOut{Edit: e})
		}
		wantTyped(t, e, "xyz\r", impl.EditOut{Lines: []string{full}})
		wantTyped(t, e, "\x05\x7fxy\r", impl.EditOut{Lines: []string{full[:59] + "x"}})
	}
	short := plainText(59)
	for _, e := range editsOf(short) {
		text := short[:e.At] + "x" + short[e.At:]
		wantTyped(t, e, "xyz", impl.EditOut{Edit: impl.Edit{Text: text, At: e.At + 1}})
	}
}

// Promise 18: a plain text that is typed is the line.
func TestPlainTextThatIsTypedIsTheLine(t *testing.T) {
	var texts []string
	for size := range 61 {
		texts = append(texts, plainText(size), strings.Repeat(" ", size), strings.Repeat("a", size), strings.Repeat("a b", size/3))
	}
	for _, text := range append(texts, editedTexts()...) {
		size := int64(len(text))
		wantTyped(t, impl.Edit{}, text, impl.EditOut{Edit: impl.Edit{Text: text, At: size}})
		wantTyped(t, impl.Edit{}, text+"\r", impl.EditOut{Lines: []string{text}})
		wantTyped(t, shown("left|over"), "\x03"+text+"\r", impl.EditOut{Lines: []string{text}})
		wantTyped(t, shown("left|over"), "\r"+text+"\r", impl.EditOut{Lines: []string{"leftover", text}})
	}
	wantTyped(t, impl.Edit{}, strings.Join(texts, "\r")+"\r", impl.EditOut{Lines: texts})
}

// What is typed behind MaxLine bytes is not in the line.
func TestLongTextThatIsTypedIsCut(t *testing.T) {
	for _, size := range []int{61, 62, 120, impl.MaxBytes - 1} {
		text := plainText(size)
		wantTyped(t, impl.Edit{}, text, impl.EditOut{Edit: impl.Edit{Text: text[:60], At: 60}})
		wantTyped(t, impl.Edit{}, text+"\r", impl.EditOut{Lines: []string{text[:60]}})
	}
}

// wantInTwoParts: the keys in two parts, with the edit of the first one handed on, make what they make in one.
func wantInTwoParts(t *testing.T, e impl.Edit, keys string) {
	t.Helper()
	whole := typedByText(e, keys)
	wantTyped(t, e, keys, whole)
	for cut := range len(keys) + 1 {
		first := impl.Type(e, keys[:cut])
		second := impl.Type(first.Edit, keys[cut:])
		both := impl.EditOut{Edit: second.Edit, Lines: append(first.Lines, second.Lines...), Code: max(first.Code, second.Code)}
		if !sameEditOut(both, whole) {
			t.Errorf("Type of %q At %d and keys %.120q, cut at %d: got %q, want %q", e.Text, e.At, keys, cut, fmt.Sprint(both), fmt.Sprint(whole))
		}
	}
}

// keysBySeed are mostly those that come in, with some of use and some that count for nothing.
func keysBySeed(rolled *dice, count int) string {
	out := make([]byte, count)
	for i := range out {
		switch rolled.below(8) {
		case 0, 1, 2:
			out[i] = "ab xyz~!"[rolled.below(8)]
		case 3:
			out[i] = ' '
		case 4, 5, 6:
			out[i] = keysOfUse()[rolled.below(len(keysOfUse()))]
		default:
			out[i] = byte(rolled.below(256))
		}
	}
	return string(out)
}

// Promise 18: keys typed in two parts make the same lines.
func TestKeysInTwoPartsMakeTheSameLines(t *testing.T) {
	known := []string{
		"", "a", "ab cd\r", "ls\rwho am i\rx", "\r\r\r", "ab\x7f\x7f\x7fc\r", "ab cd\x17X\x01Y\x05\x7f\r", "ab\x02\x02c\x06d\x05e\x15f\r", "ab\rcd\x03ef\r", keysOfUse(),
		"ab cd ef\x02\x02\x02\x17\x17g\r\x08", "a\u00e9b\r\n", plainText(70) + "\r" + plainText(70), sample(512),
	}
	for _, keys := range known {
		for _, from := range []string{"|", "|ab cd", "ab |cd", "ab cd|", strings.Repeat("a ", 30) + "|"} {
			wantInTwoParts(t, shown(from), keys)
		}
	}
	rolled := &dice{seed: 18}
	for range 400 {
		text := plainText(rolled.below(61))
		e := impl.Edit{Text: text, At: int64(rolled.below(len(text) + 1))}
		wantInTwoParts(t, e, keysBySeed(rolled, rolled.below(100)))
	}
}

// An edit that keys were typed on is right, and shown as the document's words make it.
func TestTypedEditStaysRight(t *testing.T) {
	rolled := &dice{seed: 10}
	lines := 0
	for range 300 {
		e := impl.Edit{}
		for range 20 {
			keys := keysBySeed(rolled, rolled.below(30))
			want := typedByText(e, keys)
			wantTyped(t, e, keys, want)
			if !editByText(want.Edit) || !impl.EditRight(want.Edit) {
				t.Errorf("Type of %q At %d and keys %q: %v is not right", e.Text, e.At, keys, want.Edit)
			}
			e = want.Edit
			lines += len(want.Lines)
		}
	}
	if lines < 1000 {
		t.Errorf("only %d lines were typed", lines)
	}
}

// All keys of use up to four, on small texts with At at each place.
func TestTypeOfAllSmallKeys(t *testing.T) {
	for _, keys := range wordsOver("a \x7f\x15\x17\x01\x05\x02\x06\r\x03", 4) {
		for _, from := range []string{"|", "|b c", "b| c", "b |c", "b c|"} {
			e := shown(from)
			wantTyped(t, e, keys, typedByText(e, keys))
		}
	}
}

func TestTypeOfKeysAtTheLimit(t *testing.T) {
	for _, unit := range []string{"a", "\r", "a\r", "\x7f", "\x00", "ab \x17\r", "\x02\x06", "\xff"} {
		keys := strings.Repeat(unit, impl.MaxBytes+1)[:impl.MaxBytes+1]
		for _, e := range []impl.Edit{{}, shown("ab |cd")} {
			wantTyped(t, e, keys[:impl.MaxBytes], typedByText(e, keys[:impl.MaxBytes]))
			wantTyped(t, e, keys, impl.EditOut{Code: impl.ErrSize})
		}
	}
	wantTyped(t, impl.Edit{}, strings.Repeat("\r", impl.MaxBytes), impl.EditOut{Lines: make([]string, impl.MaxBytes)})
	wantTyped(t, shown("ab|"), strings.Repeat("\x00", impl.MaxBytes), impl.EditOut{Edit: shown("ab|")})
}

func TestTypeFaultsInOrder(t *testing.T) {
	tooMany := strings.Repeat("\r", impl.MaxBytes+1)
	for _, e := range wrongEdits() {
		for _, keys := range []string{"", "a", "\r", "ab\rcd\r", "\x03", tooMany[1:]} {
			wantTyped(t, e, keys, impl.EditOut{Code: impl.ErrForm})
		}
		wantTyped(t, e, tooMany, impl.EditOut{Code: impl.ErrSize})
		wantTyped(t, e, tooMany+tooMany, impl.EditOut{Code: impl.ErrSize})
		if got := impl.EditShow(e); got != "" {
			t.Errorf("EditShow of %.80q At %d: got %.80q", e.Text, e.At, got)
		}
	}
	for _, e := range []impl.Edit{{}, shown("ab|cd"), {Text: plainText(60), At: 60}} {
		wantTyped(t, e, tooMany, impl.EditOut{Code: impl.ErrSize})
	}
}

func TestEditShowOfKnownEdits(t *testing.T) {
	for _, text := range []string{"|", "|a", "a|", "|abc", "a|bc", "abc|", " | ", "ab |cd", "|" + plainText(9)} {
		if got := impl.EditShow(shown(text)); got != text {
			t.Errorf("EditShow of %q At %d: got %q", shown(text).Text, shown(text).At, got)
		}
	}
	for _, text := range editedTexts() {
		for _, at := range edgePlaces(len(text)) {
			want := ""
			if at >= 0 && at <= int64(len(text)) {
				want = text[:at] + "|" + text[at:]
			}
			if got := impl.EditShow(impl.Edit{Text: text, At: at}); got != want {
				t.Errorf("EditShow of %q At %d: got %q, want %q", text, at, got, want)
			}
		}
	}
	if got := impl.EditShow(impl.Edit{Text: "a|b", At: 2}); got != "a||b" {
		t.Errorf("EditShow of a text with a bar: got %q", got)
	}
	if got := impl.EditShow(impl.Edit{Text: strings.Repeat("a", 60), At: 60}); len(got) != 61 {
		t.Errorf("EditShow of the greatest text: got %d bytes", len(got))
	}
}

func wantStart(t *testing.T, text string, at int64, want int64) {
	t.Helper()
	if got := impl.WordStart(text, at); got != want {
		t.Errorf("WordStart of %.80q (%d bytes) and %d: got %d, want %d", text, len(text), at, got, want)
	}
}

func TestWordStartOfKnownTexts(t *testing.T) {
	cases := []struct {
		text   string
		starts []int64
	}{
		{"", []int64{0}},
		{" ", []int64{0, 0}},
		{"   ", []int64{0, 0, 0, 0}},
		{"a", []int64{0, 0}},
		{"abc", []int64{0, 0, 0, 0}},
		{"ab cd", []int64{0, 0, 0, 0, 3, 3}},
		{"ab  cd ", []int64{0, 0, 0, 0, 0, 4, 4, 4}},
		{" ab", []int64{0, 0, 1, 1}},
		{"  ab  ", []int64{0, 0, 0, 2, 2, 2, 2}},
		{"a b c", []int64{0, 0, 0, 2, 2, 4}},
		{"a\tb\nc", []int64{0, 0, 0, 0, 0, 0}},
		{"a \t", []int64{0, 0, 0, 2}},
		{"a \n\r\v\f", []int64{0, 0, 0, 2, 2, 2, 2}},
		{"\x00 \xff", []int64{0, 0, 0, 2}},
		{"\u00e9 \u00e9", []int64{0, 0, 0, 0, 3, 3}},
		{"a\u00a0b", []int64{0, 0, 0, 0, 0}},
	}
	for _, c := range cases {
		for at, want := range c.starts {
			wantStart(t, c.text, int64(at), want)
		}
		for _, at := range []int64{-1, int64(len(c.text)) + 1, math.MinInt64, math.MaxInt64} {
			wantStart(t, c.text, at, 0)
		}
	}
}

// The empty answer of a place outside is not that of the nearest place inside.
func TestWordStartOfEdgePlaces(t *testing.T) {
	for _, text := range append(editedTexts(), "ab cd", strings.Repeat("a", 30)+" "+strings.Repeat("b", 29), sample(60), sample(33)) {
		for _, at := range edgePlaces(len(text)) {
			want := int64(0)
			if at >= 0 && at <= int64(len(text)) {
				want = int64(startByText(text[:at]))
			}
			wantStart(t, text, at, want)
		}
	}
}

func TestWordStartOfEachSize(t *testing.T) {
	for size := 4; size < 130; size++ {
		text := strings.Repeat("a", size-2) + " b"
		want := int64(size - 1)
		if size > 60 {
			want = 0
		}
		wantStart(t, text, int64(size), want)
		wantStart(t, text, int64(size)-1, 0)
		wantStart(t, "x y"+text[3:], 3, min(want, 2))
	}
	for _, size := range []int{impl.MaxBytes, impl.MaxBytes + 1} {
		text := strings.Repeat("ab ", size)[:size]
		for _, at := range []int64{0, 5, 60, int64(size)} {
			wantStart(t, text, at, 0)
		}
	}
}

func TestWordStartOfAllSmallTexts(t *testing.T) {
	for _, text := range wordsOver("a b", 6) {
		for at := range len(text) + 1 {
			wantStart(t, text, int64(at), int64(startByText(text[:at])))
		}
	}
}

// Where 23 is pressed all from WordStart up to At goes, and nothing else.
func TestKeyThatTakesAWordBeginsAtWordStart(t *testing.T) {
	for _, text := range append(editedTexts(), wordsOver("a ", 6)...) {
		for _, e := range editsOf(text) {
			start := impl.WordStart(text, e.At)
			want := impl.Edit{Text: text[:start] + text[e.At:], At: start}
			wantTyped(t, e, "\x17", impl.EditOut{Edit: want})
		}
	}
}

func TestTypedAnswersAreNewMemory(t *testing.T) {
	for _, keys := range []string{"", "\x01\x05", "\x06", "\r", "xy\r", "\rab\r\rcd", "\x7f\x7f", "\x15", "\x17", "\x03", "\x00", "zzz"} {
		e := impl.Edit{Text: strings.Clone("some words"), At: 4}
		handed := strings.Clone(keys)
		got := impl.Type(e, handed)
		wantNewMemory(t, fmt.Sprintf("Type of keys %q", keys), []string{e.Text, handed}, append(slices.Clone(got.Lines), got.Edit.Text))
		wantNewMemory(t, "EditShow", []string{e.Text}, []string{impl.EditShow(e)})
		if e != (impl.Edit{Text: "some words", At: 4}) || handed != keys {
			t.Errorf("Type of keys %q changed what was handed in: %v and %q", keys, e, handed)
		}
	}
}

func TestTypedListsAreNewAtEachCall(t *testing.T) {
	const keys = "ab\rcd\ref\r"
	first, second := impl.Type(impl.Edit{}, keys), impl.Type(impl.Edit{}, keys)
	for i := range first.Lines {
		first.Lines[i] = "turned"
	}
	_ = append(first.Lines, "more")
	want := impl.EditOut{Lines: []string{"ab", "cd", "ef"}}
	if !sameEditOut(second, want) {
		t.Errorf("Type of %q, when another answer was turned: got %q", keys, fmt.Sprint(second))
	}
	wantTyped(t, impl.Edit{}, keys, want)
}

// Nothing is kept from one call to the next.
func TestTypedKeysAreNotKept(t *testing.T) {
	impl.Type(impl.Edit{}, "left over\rand more")
	wantTyped(t, impl.Edit{}, "x", impl.EditOut{Edit: shown("x|")})
	impl.Type(impl.Edit{Text: "\x00"}, "a\r")
	wantTyped(t, impl.Edit{}, "\r", impl.EditOut{Lines: []string{""}})
}

func FuzzType(f *testing.F) {
	f.Add("ab cd", int64(3), "x\x17\x7f\r\x01y\x05\x03")
	f.Add("", int64(0), "ls -l\r")
	f.Add("ab", int64(3), "")
	f.Fuzz(func(t *testing.T, text string, at int64, keys string) {
		e := impl.Edit{Text: text, At: at}
		want := typedByText(e, keys)
		wantTyped(t, e, keys, want)
		if impl.EditRight(e) != editByText(e) {
			t.Errorf("EditRight of %q At %d: got %t", text, at, !editByText(e))
		}
		if want.Code == impl.OK && len(keys) <= 200 {
			wantInTwoParts(t, e, keys)
			wantStart(t, text, at, int64(startByText(text[:at])))
		}
	})
}
