package tests

import (
	"fmt"
	"slices"
	"strconv"
	"strings"
	"testing"

	"loop.example/g00455/impl"
)

// fedByText is the right screen behind the text, by the document's words, byte by byte.
func fedByText(s impl.Screen, text string) impl.Screen {
	s.Rows = slices.Clone(s.Rows)
	for i := range len(text) {
		b := text[i]
		numbers, headed := strings.CutPrefix(s.Esc, "\x1b[")
		switch {
		case s.Esc == "":
			byteByText(&s, b)
		case s.Esc == "\x1b" && b == '[':
			s.Esc = "\x1b["
		case !headed:
			s.Esc = ""
		case strings.IndexByte("0123456789;", b) >= 0 && len(numbers) < 6:
			s.Esc += string([]byte{b})
		default:
			s.Esc = ""
			parts := strings.Split(numbers+";", ";")
			first, _ := strconv.Atoi(parts[0])
			second, _ := strconv.Atoi(parts[1])
			wordByText(&s, b, int64(first), int64(second))
		}
	}
	return s
}

// byteByText is of a byte with nothing begun.
func byteByText(s *impl.Screen, b byte) {
	wide := int64(len(s.Rows[0]))
	switch {
	case b == 27:
		s.Esc = "\x1b"
	case b >= 32 && b <= 126:
		if s.Col == wide {
			s.Col = 0
			downByText(s)
		}
		row := s.Rows[s.Row]
		s.Rows[s.Row] = row[:s.Col] + string([]byte{b}) + row[s.Col+1:]
		s.Col++
	case b == 13:
		s.Col = 0
	case b == 10:
		downByText(s)
	case b == 8 && s.Col > 0:
		s.Col--
	}
}

func downByText(s *impl.Screen) {
	if s.Row+1 == int64(len(s.Rows)) {
		s.Rows = append(s.Rows[1:], strings.Repeat(" ", len(s.Rows[0])))
		return
	}
	s.Row++
}

// wordByText is of the byte that ends a word, and the two numbers ahead of it.
func wordByText(s *impl.Screen, b byte, first int64, second int64) {
	wide, high := int64(len(s.Rows[0])), int64(len(s.Rows))
	by := first
	if by == 0 {
		by = 1
	}
	switch b {
	case 'A':
		s.Row = max(s.Row-by, 0)
	case 'B':
		s.Row = min(s.Row+by, high-1)
	case 'C':
		s.Col = min(s.Col+by, wide-1)
	case 'D':
		s.Col = max(s.Col-by, 0)
	case 'H':
		s.Row, s.Col = min(max(first, 1), high)-1, min(max(second, 1), wide)-1
	case 'J':
		if first == 2 {
			s.Rows = blankRows(int(wide), int(high))
		}
	case 'K':
		s.Rows[s.Row] = s.Rows[s.Row][:s.Col] + strings.Repeat(" ", int(wide-s.Col))
	}
}

func wantFed(t *testing.T, s impl.Screen, text string) impl.Screen {
	t.Helper()
	got := impl.Feed(s, text)
	if got.Code != impl.OK || !impl.ScreenRight(got.Screen) {
		t.Errorf("Feed of %s, %.80q: got %s Code %d", briefScreen(s), text, briefScreen(got.Screen), got.Code)
	}
	if want := fedByText(s, text); !sameScreen(got.Screen, want) {
		t.Errorf("Feed of %s, %.80q: got %s, want %s", briefScreen(s), text, briefScreen(got.Screen), briefScreen(want))
	}
	return got.Screen
}

// begunEdges are what may have been begun, at the edges of each state.
func begunEdges() []string {
	return []string{"", "\x1b", "\x1b[", "\x1b[2", "\x1b[2;1", "\x1b[1;2;3", "\x1b[12345", "\x1b[;;;;;", "\x1b[123456", "\x1b[;;;;;;", "\x1b[2;2;;;"}
}

// words begin with 27: each of these numbers with each of these ends.
func words() []string {
	out := []string{"\x1b", "\x1b[", "\x1bA", "\x1b2J", "\x1b\x1b", "\x1b\x1b[A", "\x1b[\x1b[A", "\x1b[1\x1b", "\x1b[?25h", "\x1b[1 H", "\x1b[-1A", "\x1b[[A"}
	for _, numbers := range []string{
		"", "0", "1", "2", "3", "5", "6", "7", "19", "20", "21", "99999", "999999", "1234567", "00", "02", "000002", "0000002",
		";", ";;", ";1", ";2", "1;", "2;", "0;0", "1;1", "2;2", "2;3", "3;2", "6;20", "7;21", "9;99", "99;9", ";;2", "2;;", "1;2;3", "0;2",
		";;;;;", ";;;;;;", ";;;;;;;", "12;345", "12;3456", "2;2;2;", "2;2;2;2",
	} {
		for _, end := range []string{
			"A", "B", "C", "D", "H", "J", "K", "E", "G", "I", "L", "@", "Z", "[", "a", "b", "h", "j", "k", "m", ":", "/", " ", "\x00", "\x08",
			"\n", "\r", "\x1b", "\x7f", "\x80", "\xff",
		} {
			out = append(out, "\x1b["+numbers+end)
		}
	}
	return out
}

func TestFeedOfKnownTexts(t *testing.T) {
	rows := func(l ...string) []string { return l }
	s := impl.Screen{Rows: rows("abc", "def", "ghi"), Row: 1, Col: 1}
	at := func(row int64, col int64) impl.Screen { return impl.Screen{Rows: s.Rows, Row: row, Col: col} }
	cases := []struct {
		text string
		s    impl.Screen
		want impl.Screen
	}{
		{"", s, s},
		{"X", s, impl.Screen{Rows: rows("abc", "dXf", "ghi"), Row: 1, Col: 2}},
		{"XY", s, impl.Screen{Rows: rows("abc", "dXY", "ghi"), Row: 1, Col: 3}},
		{"XYZ", s, impl.Screen{Rows: rows("abc", "dXY", "Zhi"), Row: 2, Col: 1}},
		{"X", at(2, 3), impl.Screen{Rows: rows("def", "ghi", "X  "), Row: 2, Col: 1}},
		{"X", at(0, 3), impl.Screen{Rows: rows("abc", "Xef", "ghi"), Row: 1, Col: 1}},
		{" ~", s, impl.Screen{Rows: rows("abc", "d ~", "ghi"), Row: 1, Col: 3}},
		{"\r", at(1, 3), at(1, 0)},
		{"\r", at(1, 0), at(1, 0)},
		{"\n", at(0, 2), at(1, 2)},
		{"\n", at(1, 3), at(2, 3)},
		{"\n", at(2, 2), impl.Screen{Rows: rows("def", "ghi", "   "), Row: 2, Col: 2}},
		{"\n\n", at(1, 0), impl.Screen{Rows: rows("def", "ghi", "   "), Row: 2}},
		{"\b", at(1, 0), at(1, 0)},
		{"\b", at(1, 3), at(1, 2)},
		{"\b\b\b\b", at(1, 3), at(1, 0)},
		{"\x00\a\t\v\f\x1f\x7f\x80\xff\u00e9", s, s},
		{"\x1b[A", at(0, 3), at(0, 3)}, {"\x1b[A", at(2, 3), at(1, 3)}, {"\x1b[2A", at(2, 1), at(0, 1)}, {"\x1b[0A", at(2, 1), at(1, 1)},
		{"\x1b[B", at(0, 3), at(1, 3)}, {"\x1b[B", at(2, 3), at(2, 3)}, {"\x1b[2B", at(0, 1), at(2, 1)}, {"\x1b[9B", at(0, 1), at(2, 1)},
		{"\x1b[C", at(1, 0), at(1, 1)}, {"\x1b[C", at(1, 2), at(1, 2)}, {"\x1b[2C", at(1, 0), at(1, 2)}, {"\x1b[999999C", at(1, 0), at(1, 2)},
		{"\x1b[C", at(1, 3), at(1, 2)}, {"\x1b[D", at(1, 3), at(1, 2)}, {"\x1b[2D", at(1, 3), at(1, 1)}, {"\x1b[D", at(1, 0), at(1, 0)},
		{"\x1b[4D", at(1, 3), at(1, 0)}, {"\x1b[;2A", at(2, 1), at(1, 1)}, {"\x1b[2;1A", at(2, 1), at(0, 1)},
		{"\x1b[H", s, at(0, 0)}, {"\x1b[3H", s, at(2, 0)}, {"\x1b[;3H", s, at(0, 2)}, {"\x1b[2;3H", s, at(1, 2)}, {"\x1b[4;4H", s, at(2, 2)},
		{"\x1b[0;0H", at(2, 3), at(0, 0)}, {"\x1b[1;1H", at(2, 3), at(0, 0)}, {"\x1b[3;2;1H", s, at(2, 1)}, {"\x1b[999;99H", s, at(2, 2)},
		{"\x1b[2J", s, impl.Screen{Rows: blankRows(3, 3), Row: 1, Col: 1}},
		{"\x1b[2;1J", at(2, 3), impl.Screen{Rows: blankRows(3, 3), Row: 2, Col: 3}},
		{"\x1b[J", s, s}, {"\x1b[0J", s, s}, {"\x1b[1J", s, s}, {"\x1b[3J", s, s}, {"\x1b[;2J", s, s}, {"\x1b[22J", s, s},
		{"\x1b[K", s, impl.Screen{Rows: rows("abc", "d  ", "ghi"), Row: 1, Col: 1}},
		{"\x1b[2K", s, impl.Screen{Rows: rows("abc", "d  ", "ghi"), Row: 1, Col: 1}},
		{"\x1b[K", at(0, 0), impl.Screen{Rows: rows("   ", "def", "ghi")}},
		{"\x1b[K", at(2, 3), at(2, 3)},
		{"\x1b[m", s, s}, {"\x1b[E", s, s}, {"\x1b[a", s, s}, {"\x1b[\n", s, s}, {"\x1b[\xff", s, s}, {"\x1b\n", s, s}, {"\x1b\xff", s, s},
		{"\x1bA", s, s}, {"\x1b\x1b", s, s}, {"\x1b\u00e9", s, s}, {"\x1b[1\u00e9", s, s},
		{"\x1b\u00e9X", s, impl.Screen{Rows: rows("abc", "dXf", "ghi"), Row: 1, Col: 2}},
		{"\x1b\xc3X", s, impl.Screen{Rows: rows("abc", "dXf", "ghi"), Row: 1, Col: 2}},
		{"\x1b\xe2\x82X", s, impl.Screen{Rows: rows("abc", "dXf", "ghi"), Row: 1, Col: 2}},
		{"\x1b[\u0130A", s, impl.Screen{Rows: rows("abc", "dAf", "ghi"), Row: 1, Col: 2}},
		{"\x1b", s, impl.Screen{Rows: s.Rows, Row: 1, Col: 1, Esc: "\x1b"}},
		{"\x1b[", s, impl.Screen{Rows: s.Rows, Row: 1, Col: 1, Esc: "\x1b["}},
		{"\x1b[1;2;3", s, impl.Screen{Rows: s.Rows, Row: 1, Col: 1, Esc: "\x1b[1;2;3"}},
		{"\x1b[123456", s, impl.Screen{Rows: s.Rows, Row: 1, Col: 1, Esc: "\x1b[123456"}},
		{"\x1b[1234567", s, s},
		{"\x1b[123456;", s, s},
		{"\x1b[0000002J", s, impl.Screen{Rows: rows("abc", "dJf", "ghi"), Row: 1, Col: 2}},
		{"\x1b[000002J", s, impl.Screen{Rows: blankRows(3, 3), Row: 1, Col: 1}},
	}
	for _, c := range cases {
		wantScreen(t, fmt.Sprintf("Feed of %s, %q", briefScreen(c.s), c.text), impl.Feed(c.s, c.text), impl.ScreenOut{Screen: c.want})
	}
}

// Each byte, at each place of a small screen, behind each thing that may have been begun.
func TestFeedOfEachByte(t *testing.T) {
	for b := range 256 {
		for _, esc := range begunEdges() {
			for row := range int64(3) {
				for col := range int64(5) {
					s := impl.Screen{Rows: []string{"abcd", "efgh", "ijkl"}, Row: row, Col: col, Esc: esc}
					wantFed(t, s, string([]byte{byte(b)}))
				}
			}
		}
	}
}

// Each word, from each place of the smallest screen, the greatest one, and one between.
func TestFeedOfEachWord(t *testing.T) {
	for _, size := range [][2]int{{1, 1}, {5, 3}, {20, 6}} {
		s := printedScreen(size[0], size[1], 0)
		for _, word := range words() {
			for _, row := range []int64{0, 1, int64(size[1]) / 2, int64(size[1]) - 1} {
				for _, col := range []int64{0, 1, int64(size[0]) / 2, int64(size[0]) - 1, int64(size[0])} {
					if row < int64(size[1]) {
						s.Row, s.Col = row, col
						wantFed(t, s, word+"X")
					}
				}
			}
		}
	}
}

// mixedTexts are printed bytes, ends of lines, words and bytes that count for nothing, one behind the other.
func mixedTexts() []string {
	all := words()
	out := []string{"", "abc\r\ndef\b\bX\n", strings.Repeat("0123456789", 20), strings.Repeat("\n", 9), "a\nb\nc\nd\ne\nf\ng\nh", sample(300)}
	seed := uint64(5)
	for range 40 {
		text := ""
		for range 30 {
			seed = seed*6364136223846793005 + 1442695040888963407
			r := int(seed >> 40)
			switch r % 5 {
			case 0:
				text += all[r/5%len(all)]
			case 1:
				text += []string{"\r", "\n", "\b", "\r\n", "\b\b", "\x1b[2J", "\x1b[K", "\u00e9", "\t", "\x1b[3;4H"}[r/5%10]
			case 2:
				text += "abcdefghijklmnopqrstuvwxyz"[:r/5%27]
			default:
				text += string([]byte{byte(32 + r/5%95)})
			}
		}
		out = append(out, text)
	}
	return out
}

// Promise 11, of the screen: texts written to screens of each size, one text behind the other.
func TestFedScreenStaysRight(t *testing.T) {
	for wide := 1; wide <= 20; wide++ {
		for high := 1; high <= 6; high++ {
			s := impl.ScreenNew(int64(wide), int64(high)).Screen
			for i, text := range mixedTexts() {
				wantFed(t, printedScreen(wide, high, i), text)
				s = wantFed(t, s, text)
			}
		}
	}
}

// Promise 11, of two parts: each text is cut at each of its places, also in the middle of what is begun or of a rune.
func TestFedInTwoPartsIsTheSame(t *testing.T) {
	sizes := [][2]int{{1, 1}, {1, 6}, {20, 1}, {20, 6}, {7, 3}}
	for i, text := range append(mixedTexts(), "\x1b[2;3HX\x1b[1234567A\u00e9\x1b\u20ac\x1b[\U0001f600K") {
		for _, size := range sizes {
			for _, begun := range []string{"", "\x1b", "\x1b[12;3"} {
				s := printedScreen(size[0], size[1], i)
				s.Esc = begun
				whole := impl.Feed(s, text)
				for cut := range len(text) + 1 {
					got := impl.Feed(impl.Feed(s, text[:cut]).Screen, text[cut:])
					wantScreen(t, fmt.Sprintf("%q cut at %d", text, cut), got, whole)
				}
			}
		}
	}
}

func TestFedWordsInTwoPartsAreTheSame(t *testing.T) {
	s := impl.Screen{Rows: []string{"abcd", "efgh", "ijkl"}, Row: 1, Col: 2}
	for _, word := range words() {
		whole := impl.Feed(s, word+"X")
		for cut := range len(word) + 2 {
			got := impl.Feed(impl.Feed(s, (word + "X")[:cut]).Screen, (word + "X")[cut:])
			wantScreen(t, fmt.Sprintf("%q cut at %d", word, cut), got, whole)
		}
	}
}

func TestFeedAtTheLimit(t *testing.T) {
	for _, size := range [][2]int{{1, 1}, {20, 6}} {
		s := printedScreen(size[0], size[1], 3)
		for _, text := range []string{
			strings.Repeat("a", impl.MaxBytes), strings.Repeat("\n", impl.MaxBytes), sample(impl.MaxBytes), strings.Repeat("\x1b", impl.MaxBytes-1),
			strings.Repeat("\x1b[B\x1b[C\x1b[2J", impl.MaxBytes/10), strings.Repeat("\xff", impl.MaxBytes),
		} {
			wantFed(t, s, text)
			more := text + strings.Repeat("x", impl.MaxBytes+1-len(text))
			wantScreen(t, "Feed of one byte more", impl.Feed(s, more), impl.ScreenOut{Code: impl.ErrSize})
		}
	}
}

func TestFeedLeavesItsArgument(t *testing.T) {
	for _, text := range []string{"", "X", "\n", "\n\n\n", "\x1b[2J", "\x1b[K", "XXXXXXXXXXXXXXXX", "\x1b[1;", "3"} {
		room := []string{"abcd", "efgh", "behind"}
		s := ownMemory(impl.Screen{Rows: room, Row: 1, Col: 1, Esc: "\x1b[1"})
		given := slices.Clone(s.Rows)
		s.Rows = s.Rows[:2]
		got := impl.Feed(s, text).Screen
		if !slices.Equal(given, room) || !slices.Equal(s.Rows[:3], given) {
			t.Errorf("Feed of %q: the argument's rows are %q", text, s.Rows[:3])
		}
		wantNewMemory(t, fmt.Sprintf("Feed of %q", text), append(textsOf(s), text), textsOf(got))
		for i := range got.Rows {
			got.Rows[i] = "turned"
		}
		if !slices.Equal(s.Rows, room[:2]) {
			t.Errorf("Feed of %q: the argument changes with the answer to %q", text, s.Rows)
		}
	}
}

func FuzzFeed(f *testing.F) {
	f.Add(uint8(3), uint8(2), uint8(1), uint8(3), "", "abc\r\n\x1b[2;1HX\x1b[K", uint16(9))
	f.Add(uint8(19), uint8(5), uint8(5), uint8(20), "\x1b[12;3", "4A\x1b\x1b[2J\u00e9", uint16(3))
	f.Add(uint8(0), uint8(0), uint8(0), uint8(1), "\x1b", "[999999B\b\b", uint16(1))
	f.Fuzz(func(t *testing.T, wide uint8, high uint8, row uint8, col uint8, esc string, text string, cut uint16) {
		s := printedScreen(int(wide%20)+1, int(high%6)+1, int(row))
		s.Row, s.Col, s.Esc = int64(row), int64(col), esc
		if !impl.ScreenRight(s) {
			s.Row, s.Col, s.Esc = 0, 0, ""
		}
		if len(text) > impl.MaxBytes {
			wantScreen(t, "too much", impl.Feed(s, text), impl.ScreenOut{Code: impl.ErrSize})
			return
		}
		whole := wantFed(t, s, text)
		first := text[:min(int(cut), len(text))]
		wantScreen(t, "two parts", impl.Feed(impl.Feed(s, first).Screen, text[len(first):]), impl.ScreenOut{Screen: whole})
	})
}
