package tests

import (
	"fmt"
	"math"
	"slices"
	"strings"
	"testing"
	"unsafe"

	"loop.example/g00455/impl"
)

// sameScreen takes an empty list and none for the same.
func sameScreen(a impl.Screen, b impl.Screen) bool {
	return slices.Equal(a.Rows, b.Rows) && a.Row == b.Row && a.Col == b.Col && a.Esc == b.Esc
}

// briefScreen tells a screen without what is too long.
func briefScreen(s impl.Screen) string {
	return fmt.Sprintf("{%d rows %.200q at %d %d esc %.20q}", len(s.Rows), s.Rows[:min(len(s.Rows), 7)], s.Row, s.Col, s.Esc)
}

func wantScreen(t *testing.T, what string, got impl.ScreenOut, want impl.ScreenOut) {
	t.Helper()
	if got.Code != want.Code || !sameScreen(got.Screen, want.Screen) {
		t.Errorf("%s: got %s Code %d, want %s Code %d",
			what, briefScreen(got.Screen), got.Code, briefScreen(want.Screen), want.Code)
	}
}

// blankRows are so many rows of blanks.
func blankRows(wide int, high int) []string {
	return slices.Repeat([]string{strings.Repeat(" ", wide)}, high)
}

// printedScreen is a right one whose rows are all of other bytes, by the seed.
func printedScreen(wide int, high int, seed int) impl.Screen {
	var s impl.Screen
	for i := range high {
		row := make([]byte, wide)
		for j := range row {
			row[j] = byte(32 + (i*29+j*7+seed*13)%95)
		}
		s.Rows = append(s.Rows, string(row))
	}
	s.Row, s.Col = int64(seed%high), int64(seed%(wide+1))
	s.Esc = rightEscs()[seed%len(rightEscs())]
	return s
}

// rightEscs are what may have been begun.
func rightEscs() []string {
	return []string{
		"", "\x1b", "\x1b[", "\x1b[;", "\x1b[0", "\x1b[9", "\x1b[2", "\x1b[12;", "\x1b[1;2;", "\x1b[12345", "\x1b[123456",
		"\x1b[;;;;;", "\x1b[;;;;;;", "\x1b[1;2;3;", "\x1b[;;2;19", "\x1b[999999",
	}
}

func wrongEscs() []string {
	return []string{
		"[", "a", " ", "\x00", "\n", "1", ";", "[1", "\x1a", "\x9b", "\x1b\x1b", "\x1bA", "\x1b;", "\x1b1", "\x1b[A", "\x1b[ ", "\x1b[1A",
		"\x1b[A1", "\x1b[:", "\x1b[/", "\x1b[<", "\x1b[-1", "\x1b[1\x1b", "\x1b[[", "\x1b[\x00", "\x1b[\xb1", "\x1b[\xff", "\x1b[é",
		"\x1b[\u0661", "\x1b[\u0130", "\x1b[1234567", "\x1b[;;;;;;;", "\x1b[1;2;3;4", " \x1b[", "\x1b [", "\x1b[12345 ", "\x1b[12345678",
		"\x1b[" + strings.Repeat("1", impl.MaxBytes-2), "\x1b[" + strings.Repeat("1", impl.MaxBytes-1),
	}
}

// wrongScreens are not right by one thing each, or by many.
func wrongScreens() []impl.Screen {
	out := []impl.Screen{
		{},
		{Rows: []string{}},
		{Rows: []string{""}},
		{Rows: []string{"", ""}},
		{Rows: blankRows(21, 1)},
		{Rows: blankRows(1, 7)},
		{Rows: blankRows(impl.MaxBytes, 1)},
		{Rows: blankRows(impl.MaxBytes+1, 1)},
		{Rows: blankRows(impl.MaxBytes+1, 6)},
		{Rows: blankRows(1, impl.MaxList)},
		{Rows: blankRows(1, impl.MaxList+1)},
		{Rows: blankRows(0, impl.MaxList+1)},
		{Rows: []string{"ab", "abc"}},
		{Rows: []string{"abc", "ab"}},
		{Rows: []string{"ab", ""}},
		{Rows: []string{"", "ab"}},
		{Rows: []string{"ab", "ab", "ab", "ab", "ab", "a"}},
		{Rows: []string{"ab", strings.Repeat("a", 21)}},
		{Rows: []string{"ab", "\u00e9"}},
		{Rows: []string{"ab", "\u0141"}},
	}
	for _, n := range []int64{-1, 2, 3, 4, 6, 20, math.MaxInt64, math.MinInt64} {
		out = append(out, impl.Screen{Rows: []string{"abc", "def"}, Row: n})
	}
	for _, n := range []int64{-1, 4, 5, 20, 21, math.MaxInt64, math.MinInt64} {
		out = append(out, impl.Screen{Rows: []string{"abc", "def"}, Col: n})
	}
	for _, esc := range wrongEscs() {
		out = append(out, impl.Screen{Rows: []string{"abc", "def"}, Row: 1, Col: 3, Esc: esc})
	}
	for _, b := range []byte{0, 7, 8, 9, 10, 13, 27, 31, 127, 128, 255} {
		out = append(out, impl.Screen{Rows: []string{"abc", "d" + string([]byte{b}) + "f"}})
	}
	return out
}

// sharesBytes: do the two texts stand in one memory, as a whole or in part?
func sharesBytes(a string, b string) bool {
	if a == "" || b == "" {
		return false
	}
	fromA, fromB := uintptr(unsafe.Pointer(unsafe.StringData(a))), uintptr(unsafe.Pointer(unsafe.StringData(b)))
	return fromA < fromB+uintptr(len(b)) && fromB < fromA+uintptr(len(a))
}

// textsOf are all texts of a screen.
func textsOf(s impl.Screen) []string {
	return append(slices.Clone(s.Rows), s.Esc)
}

// ownMemory is the screen with texts that stand nowhere else.
func ownMemory(s impl.Screen) impl.Screen {
	out := impl.Screen{Row: s.Row, Col: s.Col, Esc: strings.Clone(s.Esc)}
	for _, row := range s.Rows {
		out.Rows = append(out.Rows, strings.Clone(row))
	}
	return out
}

// wantNewMemory: none of the answer's texts stands where one of those that were handed in does.
func wantNewMemory(t *testing.T, what string, given []string, told []string) {
	t.Helper()
	for _, a := range told {
		for _, b := range given {
			if sharesBytes(a, b) {
				t.Errorf("%s: %q of the answer stands in the memory of the argument's %q", what, a, b)
			}
		}
	}
}

func TestScreenLimits(t *testing.T) {
	if impl.MaxWide != 20 || impl.MaxHigh != 6 {
		t.Errorf("limits: %d %d", impl.MaxWide, impl.MaxHigh)
	}
}

func TestScreenRightOfEachSize(t *testing.T) {
	for wide := range 23 {
		for high := range 9 {
			right := wide >= 1 && wide <= 20 && high >= 1 && high <= 6
			if got := impl.ScreenRight(impl.Screen{Rows: blankRows(wide, high)}); got != right {
				t.Errorf("ScreenRight of blanks, %d wide, %d high: got %t", wide, high, got)
			}
		}
	}
}

func TestScreenRightOfEachPlace(t *testing.T) {
	for _, size := range [][2]int{{1, 1}, {1, 6}, {20, 1}, {20, 6}, {7, 3}} {
		for _, row := range []int64{math.MinInt64, -1, 0, 1, 2, 3, 5, 6, 7, 20, math.MaxInt64} {
			for _, col := range []int64{math.MinInt64, -1, 0, 1, 2, 6, 7, 8, 19, 20, 21, math.MaxInt64} {
				right := row >= 0 && row < int64(size[1]) && col >= 0 && col <= int64(size[0])
				s := impl.Screen{Rows: blankRows(size[0], size[1]), Row: row, Col: col}
				if got := impl.ScreenRight(s); got != right {
					t.Errorf("ScreenRight of %v, row %d, col %d: got %t", size, row, col, got)
				}
			}
		}
	}
}

func TestScreenRightOfEachByte(t *testing.T) {
	for b := range 256 {
		for at := range 3 {
			for place := range 3 {
				rows := [][]byte{[]byte("abc"), []byte("def"), []byte("ghi")}
				rows[at][place] = byte(b)
				s := impl.Screen{Rows: []string{string(rows[0]), string(rows[1]), string(rows[2])}}
				if got := impl.ScreenRight(s); got != (b >= 32 && b <= 126) {
					t.Errorf("ScreenRight with a byte %d in row %d at %d: got %t", b, at, place, got)
				}
			}
		}
	}
}

func TestScreenRightOfWhatWasBegun(t *testing.T) {
	for _, esc := range rightEscs() {
		if !impl.ScreenRight(impl.Screen{Rows: blankRows(2, 2), Esc: esc}) {
			t.Errorf("%q may have been begun", esc)
		}
	}
	for _, esc := range wrongEscs() {
		if impl.ScreenRight(impl.Screen{Rows: blankRows(2, 2), Esc: esc}) {
			t.Errorf("%.20q may not have been begun", esc)
		}
	}
	for b := range 256 {
		one := string([]byte{byte(b)})
		goesOn := b >= '0' && b <= '9' || b == ';'
		for esc, right := range map[string]bool{one: b == 27, "\x1b" + one: b == '[', "\x1b[" + one: goesOn, "\x1b[12;345" + one: false,
			"\x1b[12;34" + one: goesOn, "\x1b[" + one + "2;345": goesOn, "\x1b[" + one + "2;3456": false} {
			if got := impl.ScreenRight(impl.Screen{Rows: blankRows(2, 2), Esc: esc}); got != right {
				t.Errorf("ScreenRight with %q begun: got %t", esc, got)
			}
		}
	}
}

// What is not right is refused by each call that takes a screen, with nothing beside the code.
func TestWrongScreensAreRefused(t *testing.T) {
	right := impl.Screen{Rows: []string{"abc", "def"}}
	refused := impl.ScreenOut{Code: impl.ErrForm}
	for i, s := range wrongScreens() {
		what := fmt.Sprint("the wrong screen ", i, " ", briefScreen(s))
		if impl.ScreenRight(s) {
			t.Errorf("ScreenRight of %s", what)
		}
		if got := impl.ScreenText(s); got != "" {
			t.Errorf("ScreenText of %s: got %.80q", what, got)
		}
		for _, text := range []string{"", "a", "\x1b", "\x1b[2J", strings.Repeat("a", impl.MaxBytes)} {
			wantScreen(t, "Feed of "+what, impl.Feed(s, text), refused)
		}
		wantScreen(t, "Feed of too much, "+what, impl.Feed(s, strings.Repeat("a", impl.MaxBytes+1)), impl.ScreenOut{Code: impl.ErrSize})
		for _, n := range []int64{-1, 0, 1, 6, 20, 21, math.MaxInt64, math.MinInt64} {
			wantScreen(t, "Resize of "+what, impl.Resize(s, n, 1), refused)
			wantScreen(t, "Resize of "+what, impl.Resize(s, 1, n), refused)
		}
		for _, pair := range [][2]impl.Screen{{s, right}, {right, s}, {s, s}} {
			wantPatch(t, "Diff with "+what, impl.Diff(pair[0], pair[1]), impl.PatchOut{Code: impl.ErrForm})
		}
		for _, p := range []impl.Patch{{}, {Row: -1}, {Lines: []impl.Line{{Row: 9}}}, {Lines: []impl.Line{{Text: "abc"}}}, {Esc: "a"}} {
			wantScreen(t, "PatchOn of "+what, impl.PatchOn(s, p), refused)
		}
	}
}

func TestScreenNewOfEachSize(t *testing.T) {
	for wide := range int64(21) {
		for high := range int64(7) {
			want := impl.ScreenOut{Code: impl.ErrForm}
			if wide > 0 && high > 0 {
				want = impl.ScreenOut{Screen: impl.Screen{Rows: blankRows(int(wide), int(high))}}
			}
			wantScreen(t, fmt.Sprint("ScreenNew of ", wide, " ", high), impl.ScreenNew(wide, high), want)
		}
	}
}

func TestScreenNewOfWrongSizes(t *testing.T) {
	for _, wrong := range []int64{math.MinInt64, -20, -1, 0, 21, 22, 1 << 32, 1<<32 + 1, math.MaxInt64} {
		for _, other := range []int64{math.MinInt64, -1, 0, 1, 3, 6, 7, 20, 21, math.MaxInt64} {
			wantScreen(t, fmt.Sprint("ScreenNew of ", wrong, " ", other), impl.ScreenNew(wrong, other), impl.ScreenOut{Code: impl.ErrForm})
			wantScreen(t, fmt.Sprint("ScreenNew of ", other, " ", wrong), impl.ScreenNew(other, wrong), impl.ScreenOut{Code: impl.ErrForm})
		}
	}
	for _, high := range []int64{7, 8, 20} {
		wantScreen(t, fmt.Sprint("ScreenNew of 6 ", high), impl.ScreenNew(6, high), impl.ScreenOut{Code: impl.ErrForm})
	}
}

func TestScreenText(t *testing.T) {
	cases := []struct {
		s    impl.Screen
		want string
	}{
		{impl.Screen{Rows: []string{"a"}}, "a\n"},
		{impl.Screen{Rows: []string{" "}, Col: 1}, " \n"},
		{impl.Screen{Rows: []string{"ab", "  ", "~ "}, Row: 2, Col: 2, Esc: "\x1b[1"}, "ab\n  \n~ \n"},
		{impl.Screen{Rows: blankRows(20, 6)}, strings.Repeat(strings.Repeat(" ", 20)+"\n", 6)},
	}
	for _, c := range cases {
		if got := impl.ScreenText(c.s); got != c.want {
			t.Errorf("ScreenText of %s: got %q, want %q", briefScreen(c.s), got, c.want)
		}
	}
	for wide := 1; wide <= 20; wide++ {
		for high := 1; high <= 6; high++ {
			s := printedScreen(wide, high, wide*high)
			if got := impl.ScreenText(s); got != strings.Join(s.Rows, "\n")+"\n" {
				t.Errorf("ScreenText of %s: got %q", briefScreen(s), got)
			}
		}
	}
}
