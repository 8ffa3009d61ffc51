package tests

import (
	"fmt"
	"math"
	"slices"
	"strings"
	"testing"

	"loop.example/g00455/impl"
)

// samePatch takes an empty list and none for the same.
func samePatch(a impl.Patch, b impl.Patch) bool {
	return slices.Equal(a.Lines, b.Lines) && a.Row == b.Row && a.Col == b.Col && a.Esc == b.Esc
}

// briefPatch tells a patch without what is too long.
func briefPatch(p impl.Patch) string {
	return fmt.Sprintf("{%d lines %.200v at %d %d esc %.20q}", len(p.Lines), p.Lines[:min(len(p.Lines), 7)], p.Row, p.Col, p.Esc)
}

func wantPatch(t *testing.T, what string, got impl.PatchOut, want impl.PatchOut) {
	t.Helper()
	if got.Code != want.Code || !samePatch(got.Patch, want.Patch) {
		t.Errorf("%s: got %s Code %d, want %s Code %d", what, briefPatch(got.Patch), got.Code, briefPatch(want.Patch), want.Code)
	}
}

// bytesByText are a patch's bytes by the document's words, also where it has none.
func bytesByText(p impl.Patch) string {
	out := impl.PutNum(int64(len(p.Lines)))
	for _, line := range p.Lines {
		out += impl.PutNum(line.Row) + impl.PutNum(int64(len(line.Text))) + line.Text
	}
	return out + impl.PutNum(p.Row) + impl.PutNum(p.Col) + impl.PutNum(int64(len(p.Esc))) + p.Esc
}

// lines are of rows from 0 on.
func lines(texts ...string) []impl.Line {
	var out []impl.Line
	for i, text := range texts {
		out = append(out, impl.Line{Row: int64(i), Text: text})
	}
	return out
}

// screensOfSize are right ones, some of them alike but for one thing.
func screensOfSize(wide int, high int) []impl.Screen {
	first := printedScreen(wide, high, 1)
	out := []impl.Screen{{Rows: blankRows(wide, high)}, first, printedScreen(wide, high, 2), printedScreen(wide, high, 16)}
	for row := range high {
		other := first
		other.Rows = slices.Clone(first.Rows)
		other.Rows[row] = first.Rows[row][:wide-1] + "\x7e"
		out = append(out, other)
		moved := first
		moved.Row = int64(row)
		out = append(out, moved)
	}
	for _, col := range []int{0, wide - 1, wide} {
		moved := first
		moved.Col = int64(col)
		out = append(out, moved)
	}
	for _, esc := range rightEscs() {
		begun := first
		begun.Esc = esc
		out = append(out, begun)
	}
	return out
}

func TestDiffOfKnownScreens(t *testing.T) {
	a := impl.Screen{Rows: []string{"abc", "def", "ghi"}, Row: 1, Col: 1, Esc: "\x1b"}
	cases := []struct {
		b    impl.Screen
		want impl.Patch
	}{
		{a, impl.Patch{Row: 1, Col: 1, Esc: "\x1b"}},
		{impl.Screen{Rows: a.Rows, Row: 2, Col: 3, Esc: "\x1b[12"}, impl.Patch{Row: 2, Col: 3, Esc: "\x1b[12"}},
		{impl.Screen{Rows: []string{"abc", "deF", "ghi"}}, impl.Patch{Lines: []impl.Line{{Row: 1, Text: "deF"}}}},
		{impl.Screen{Rows: []string{"   ", "def", " hi"}}, impl.Patch{Lines: []impl.Line{{Row: 0, Text: "   "}, {Row: 2, Text: " hi"}}}},
		{impl.Screen{Rows: []string{"def", "ghi", "abc"}}, impl.Patch{Lines: lines("def", "ghi", "abc")}},
	}
	for _, c := range cases {
		wantPatch(t, "Diff to "+briefScreen(c.b), impl.Diff(a, c.b), impl.PatchOut{Patch: c.want})
	}
}

func TestDiffOfTwoSizes(t *testing.T) {
	sizes := [][2]int{{1, 1}, {1, 2}, {2, 1}, {2, 2}, {3, 2}, {6, 5}, {5, 6}, {20, 6}, {19, 6}, {20, 5}, {6, 6}}
	for _, from := range sizes {
		for _, to := range sizes {
			a, b := impl.Screen{Rows: blankRows(from[0], from[1])}, impl.Screen{Rows: blankRows(to[0], to[1])}
			want := int64(impl.ErrForm)
			if from == to {
				want = impl.OK
			}
			wantPatch(t, fmt.Sprint("Diff of ", from, to), impl.Diff(a, b), impl.PatchOut{Code: want})
		}
	}
}

// Promise 12: of each pair of screens of one size, by the patch itself and by its bytes.
func TestPatchMakesAScreenTheOther(t *testing.T) {
	for _, size := range [][2]int{{1, 1}, {1, 6}, {20, 1}, {20, 6}, {5, 3}} {
		for _, a := range screensOfSize(size[0], size[1]) {
			for _, b := range screensOfSize(size[0], size[1]) {
				wantMade(t, a, b)
			}
		}
	}
}

// Promise 12, of screens that were written to.
func TestPatchMakesAFedScreenTheOther(t *testing.T) {
	for wide := 1; wide <= 20; wide++ {
		for high := 1; high <= 6; high++ {
			a := impl.ScreenNew(int64(wide), int64(high)).Screen
			for _, text := range mixedTexts() {
				b := impl.Feed(a, text).Screen
				wantMade(t, a, b)
				a = b
			}
		}
	}
}

// wantMade: what makes a the screen b makes it that, and has no line that is not needed.
func wantMade(t *testing.T, a impl.Screen, b impl.Screen) {
	t.Helper()
	told := impl.Diff(a, b)
	others := 0
	for i := range a.Rows {
		if a.Rows[i] != b.Rows[i] {
			others++
		}
	}
	if told.Code != impl.OK || len(told.Patch.Lines) != others {
		t.Errorf("Diff of %s and %s: got %s Code %d", briefScreen(a), briefScreen(b), briefPatch(told.Patch), told.Code)
	}
	what := fmt.Sprintf("what makes %s that", briefScreen(a))
	wantScreen(t, what, impl.PatchOn(a, told.Patch), impl.ScreenOut{Screen: b})
	read := impl.PatchRead(impl.PatchBytes(told.Patch))
	wantPatch(t, what+", from its bytes", read, told)
	wantScreen(t, what+", by its bytes", impl.PatchOn(a, read.Patch), impl.ScreenOut{Screen: b})
}

func TestPatchOnOfKnownPatches(t *testing.T) {
	a := impl.Screen{Rows: []string{"abc", "def", "ghi"}, Row: 1, Col: 1, Esc: "\x1b"}
	cases := []struct {
		p    impl.Patch
		want impl.Screen
	}{
		{impl.Patch{}, impl.Screen{Rows: a.Rows}},
		{impl.Patch{Row: 2, Col: 3, Esc: "\x1b[123456"}, impl.Screen{Rows: a.Rows, Row: 2, Col: 3, Esc: "\x1b[123456"}},
		{impl.Patch{Lines: lines("abc")}, impl.Screen{Rows: a.Rows}},
		{impl.Patch{Lines: []impl.Line{{Row: 2, Text: "xyz"}}}, impl.Screen{Rows: []string{"abc", "def", "xyz"}}},
		{impl.Patch{Lines: []impl.Line{{Row: 0, Text: "   "}, {Row: 2, Text: "~~~"}}, Col: 1}, impl.Screen{Rows: []string{"   ", "def", "~~~"}, Col: 1}},
		{impl.Patch{Lines: lines("123", "456", "789"), Row: 1}, impl.Screen{Rows: []string{"123", "456", "789"}, Row: 1}},
	}
	for _, c := range cases {
		wantScreen(t, "PatchOn of "+briefPatch(c.p), impl.PatchOn(a, c.p), impl.ScreenOut{Screen: c.want})
	}
}

// wrongPatches are refused on a screen 3 wide and 3 high.
func wrongPatches() []impl.Patch {
	line := func(row int64, text string) impl.Line { return impl.Line{Row: row, Text: text} }
	out := []impl.Patch{
		{Lines: []impl.Line{line(0, "xyz"), line(0, "xyz")}},
		{Lines: []impl.Line{line(2, "xyz"), line(2, "xyz")}},
		{Lines: []impl.Line{line(1, "xyz"), line(0, "xyz")}},
		{Lines: []impl.Line{line(0, "xyz"), line(2, "xyz"), line(1, "xyz")}},
		{Lines: []impl.Line{line(0, "xyz"), line(1, "xyz"), line(1, "uvw"), line(2, "xyz")}},
		{Lines: lines("xyz", "xyz", "xyz", "xyz")},
		{Lines: lines("wxyz", "wxyz", "wxyz")},
		{Lines: lines("xy", "xy", "xy")},
		{Lines: lines("", "", "")},
		{Lines: lines("xyz", "xyz", "xy")},
		{Lines: slices.Repeat(lines("xyz"), impl.MaxList)},
		{Lines: slices.Repeat(lines("xyz"), impl.MaxList+1)},
		{Lines: lines(blankRows(3, impl.MaxList+1)...)},
	}
	for _, row := range []int64{math.MinInt64, -1, 3, 4, 6, math.MaxInt64} {
		out = append(out, impl.Patch{Lines: []impl.Line{line(row, "xyz")}}, impl.Patch{Row: row})
		out = append(out, impl.Patch{Lines: []impl.Line{line(0, "xyz"), line(row, "xyz")}})
	}
	for _, col := range []int64{math.MinInt64, -1, 4, 20, math.MaxInt64} {
		out = append(out, impl.Patch{Col: col}, impl.Patch{Col: col, Lines: lines("xyz")})
	}
	for _, text := range []string{
		"", "x", "xy", "wxyz", "xy\n", "x\x1fz", "\x7fyz", "x\x80z", "x\xff ", "\u00e9z", "\u00e9yz", "x\x1bz", "x\x00z",
		strings.Repeat("x", 20), strings.Repeat("x", 21), strings.Repeat("x", impl.MaxBytes), strings.Repeat("x", impl.MaxBytes+1),
	} {
		out = append(out, impl.Patch{Lines: lines(text)}, impl.Patch{Lines: lines("xyz", "xyz", text)})
	}
	for _, esc := range wrongEscs() {
		out = append(out, impl.Patch{Esc: esc})
	}
	return out
}

func TestPatchOnOfWrongPatches(t *testing.T) {
	right := impl.Screen{Rows: []string{"abc", "def", "ghi"}, Row: 1, Col: 1}
	wrong := impl.Screen{Rows: []string{"abc", "def", "ghi"}, Row: 3, Col: 1}
	for _, p := range wrongPatches() {
		wantScreen(t, "PatchOn of "+briefPatch(p), impl.PatchOn(right, p), impl.ScreenOut{Code: impl.ErrRange})
		wantScreen(t, "PatchOn a wrong screen of "+briefPatch(p), impl.PatchOn(wrong, p), impl.ScreenOut{Code: impl.ErrForm})
	}
	// All rows of another length make a right screen, but none of the size that it had.
	one := impl.Screen{Rows: []string{"abc"}}
	for _, text := range []string{"", "x", "xy", "wxyz", strings.Repeat("x", 20), strings.Repeat("x", 21)} {
		wantScreen(t, "PatchOn of "+text, impl.PatchOn(one, impl.Patch{Lines: lines(text)}), impl.ScreenOut{Code: impl.ErrRange})
	}
}

func TestPatchesOfKnownBytes(t *testing.T) {
	cases := []struct {
		p    impl.Patch
		want string
	}{
		{impl.Patch{}, "\x00\x00\x00\x00"},
		{impl.Patch{Row: 5, Col: 20, Esc: "\x1b[1"}, "\x00\x0a\x28\x06\x1b[1"},
		{impl.Patch{Lines: []impl.Line{{Row: 1, Text: "ab"}}, Row: 1}, "\x02\x02\x04ab\x02\x00\x00"},
		{impl.Patch{Lines: lines("a", ""), Col: -1}, "\x04\x00\x02a\x02\x00\x00\x01\x00"},
		{impl.Patch{Lines: []impl.Line{{Row: -64, Text: "\x00"}}, Row: 64, Col: -65}, "\x02\x7f\x02\x00\x80\x01\x81\x01\x00"},
	}
	for _, c := range cases {
		if got := impl.PatchBytes(c.p); got != c.want {
			t.Errorf("PatchBytes of %s: got %q, want %q", briefPatch(c.p), got, c.want)
		}
		wantPatch(t, fmt.Sprintf("PatchRead of %q", c.want), impl.PatchRead(c.want), impl.PatchOut{Patch: c.p})
	}
}

// edgePatches are of all edges of a patch's sizes, whether it has bytes or not.
func edgePatches() []impl.Patch {
	var out []impl.Patch
	for _, count := range []int{0, 1, 5, 6, 7, impl.MaxList, impl.MaxList + 1} {
		for _, textSize := range []int{0, 1, 19, 20, 21, impl.MaxBytes, impl.MaxBytes + 1} {
			for _, escSize := range []int{0, 1, 7, 8, 9, impl.MaxBytes, impl.MaxBytes + 1} {
				p := impl.Patch{Row: int64(count) - 3, Col: math.MaxInt64, Esc: sample(escSize)}
				for i := range count {
					text := sample(textSize)
					if i != count/2 {
						text = "ab"
					}
					p.Lines = append(p.Lines, impl.Line{Row: int64(9-i) << (9 * i % 60), Text: text})
				}
				out = append(out, p)
			}
		}
	}
	for _, n := range []int64{math.MinInt64, -1, 0, 1, 63, 64, math.MaxInt64} {
		out = append(out, impl.Patch{Row: n}, impl.Patch{Col: n}, impl.Patch{Lines: []impl.Line{{Row: n}, {Row: n}}})
	}
	return out
}

func TestPatchBytesAtTheEdges(t *testing.T) {
	for _, p := range edgePatches() {
		fits := len(p.Lines) <= 6 && len(p.Esc) <= 8
		for _, line := range p.Lines {
			fits = fits && len(line.Text) <= 20
		}
		want := ""
		read := impl.PatchOut{Code: impl.ErrSyntax}
		whole := bytesByText(p)
		if fits {
			want, read = whole, impl.PatchOut{Patch: p}
		}
		if len(whole) > impl.MaxBytes {
			read = impl.PatchOut{Code: impl.ErrSize}
		}
		if got := impl.PatchBytes(p); got != want {
			t.Errorf("PatchBytes of %s: got %.80q, want %.80q", briefPatch(p), got, want)
		}
		wantPatch(t, "PatchRead of what would be the bytes of "+briefPatch(p), impl.PatchRead(whole), read)
	}
}

// somePatches have bytes; not all are right on a screen.
func somePatches() []impl.Patch {
	return []impl.Patch{
		{}, {Row: 2, Col: 3, Esc: "\x1b[1;2;3"}, {Lines: lines("abc")}, {Lines: lines("", "a", "\xff\x00")}, {Lines: lines(blankRows(20, 6)...), Esc: "12345678"},
		{Lines: []impl.Line{{Row: math.MinInt64, Text: "ab"}, {Row: 300, Text: "cd"}}, Row: -1, Col: math.MaxInt64},
	}
}

// A byte that is turned makes the bytes of another patch, or of none.
func TestTurnedPatch(t *testing.T) {
	for _, p := range somePatches() {
		whole := impl.PatchBytes(p)
		for at := range len(whole) {
			for turn := 1; turn < 256; turn++ {
				turned := []byte(whole)
				turned[at] ^= byte(turn)
				wantOneWriting(t, string(turned))
				if got := impl.PatchRead(string(turned)); got.Code == impl.OK && samePatch(got.Patch, p) {
					t.Errorf("PatchRead of %q, turned from %q: the same", turned, whole)
				}
			}
		}
	}
}

// wantOneWriting: what is read of the text has these bytes, and nothing stands beside a fault.
func wantOneWriting(t *testing.T, text string) {
	t.Helper()
	got := impl.PatchRead(text)
	switch {
	case got.Code == impl.OK && impl.PatchBytes(got.Patch) != text:
		t.Errorf("PatchRead of %q: got %s, whose bytes are %q", text, briefPatch(got.Patch), impl.PatchBytes(got.Patch))
	case got.Code != impl.OK:
		wantPatch(t, fmt.Sprintf("PatchRead of %q", text), got, impl.PatchOut{Code: impl.ErrSyntax})
	}
}

func TestCutPatchIsRefused(t *testing.T) {
	for _, p := range somePatches() {
		whole := impl.PatchBytes(p)
		for cut := range len(whole) {
			wantPatch(t, fmt.Sprintf("the first %d of %q", cut, whole), impl.PatchRead(whole[:cut]), impl.PatchOut{Code: impl.ErrSyntax})
		}
		for b := range 256 {
			more := whole + string([]byte{byte(b)})
			wantPatch(t, fmt.Sprintf("%q", more), impl.PatchRead(more), impl.PatchOut{Code: impl.ErrSyntax})
		}
		wantPatch(t, "twice", impl.PatchRead(whole+whole), impl.PatchOut{Code: impl.ErrSyntax})
		wantPatch(t, "its beginning", impl.PatchRead(whole), impl.PatchOut{Patch: p})
	}
}

func TestPatchReadOfWrongBytes(t *testing.T) {
	nothing := "\x00\x00\x00"
	for _, text := range []string{
		"", "x", "\x01" + nothing, "\x03" + nothing, "\x0d" + nothing, impl.PutNum(math.MinInt64) + nothing, impl.PutNum(math.MaxInt64) + nothing,
		impl.PutNum(7) + strings.Repeat("\x00\x00", 7) + nothing, impl.PutNum(400) + strings.Repeat("\x00\x00", 400) + nothing,
		"\x80\x00" + nothing, "\x00\x80\x00\x00\x00", "\x00\x00\x80\x00\x00", "\x00\x00\x00\x80\x00", "\x82\x00\x00\x00" + nothing,
		"\x02\x80\x00\x00" + nothing, "\x02\x00\x80\x00" + nothing, "\x02\x00\x01" + nothing, "\x00\x00\x00\x01", "\x00\x00\x00\x12123456789",
		"\x02\x00\x2a" + strings.Repeat("a", 21) + nothing, strings.Repeat("\x80", 10) + nothing, strings.Repeat("\xff", impl.MaxBytes),
		strings.Repeat("\x00", impl.MaxBytes), strings.Repeat("\x80", impl.MaxBytes),
	} {
		wantPatch(t, fmt.Sprintf("PatchRead of %.80q", text), impl.PatchRead(text), impl.PatchOut{Code: impl.ErrSyntax})
	}
	for _, text := range []string{strings.Repeat("\x00", impl.MaxBytes+1), sample(impl.MaxBytes + 1)} {
		wantPatch(t, "PatchRead of too much", impl.PatchRead(text), impl.PatchOut{Code: impl.ErrSize})
	}
}

// Of all texts of up to five small bytes, those are read that are a patch's, and no others.
func TestPatchReadOfSmallBytes(t *testing.T) {
	all := []string{""}
	for at := 0; at < len(all); at++ {
		wantOneWriting(t, all[at])
		if len(all[at]) < 6 {
			for _, b := range []byte{0, 1, 2, 4, 128} {
				all = append(all, all[at]+string([]byte{b}))
			}
		}
	}
}

// textsOfPatch are all texts of a patch.
func textsOfPatch(p impl.Patch) []string {
	out := []string{p.Esc}
	for _, line := range p.Lines {
		out = append(out, line.Text)
	}
	return out
}

func TestPatchesLeaveTheirArguments(t *testing.T) {
	a := ownMemory(impl.Screen{Rows: []string{"abc", "def", "ghi"}, Esc: "\x1b["})
	b := ownMemory(impl.Screen{Rows: []string{"abc", "xyz", "uvw"}, Row: 2, Esc: "\x1b[1"})
	wasA, wasB := ownMemory(a), ownMemory(b)
	p := impl.Diff(a, b).Patch
	wantNewMemory(t, "Diff", append(textsOf(a), textsOf(b)...), textsOfPatch(p))
	wasP := slices.Clone(p.Lines)
	made := impl.PatchOn(a, p).Screen
	wantNewMemory(t, "PatchOn", append(textsOf(a), textsOfPatch(p)...), textsOf(made))
	text := impl.PatchBytes(p)
	wantNewMemory(t, "PatchRead", []string{text}, textsOfPatch(impl.PatchRead(text).Patch))
	wantNewMemory(t, "ScreenText", textsOf(a), []string{impl.ScreenText(a)})
	for i := range made.Rows {
		made.Rows[i] = "turned"
	}
	if !slices.Equal(p.Lines, wasP) || impl.PatchBytes(p) != text {
		t.Errorf("the patch is changed: %s", briefPatch(p))
	}
	for i := range p.Lines {
		p.Lines[i].Text = "turned"
	}
	if !sameScreen(a, wasA) || !sameScreen(b, wasB) {
		t.Errorf("the screens are changed: %s %s", briefScreen(a), briefScreen(b))
	}
}

func FuzzPatches(f *testing.F) {
	f.Add("\x00\x00\x00\x00", "abc", "xyz\r\n")
	f.Add("\x02\x02\x04ab\x02\x00\x00", "", "\x1b[2;")
	f.Add("\x0c"+strings.Repeat("\x00\x00", 6)+"\x00\x00\x10\x1b[123456", "\n\n\n", "a\x1b[K")
	f.Fuzz(func(t *testing.T, bytes string, first string, second string) {
		if len(bytes) <= impl.MaxBytes {
			wantOneWriting(t, bytes)
		}
		s := impl.ScreenNew(7, 3).Screen
		a, b := impl.Feed(s, first), impl.Feed(s, second)
		if a.Code != impl.OK || b.Code != impl.OK {
			return
		}
		wantMade(t, a.Screen, b.Screen)
		if got := impl.PatchOn(a.Screen, impl.PatchRead(bytes).Patch); got.Code == impl.OK && !impl.ScreenRight(got.Screen) {
			t.Errorf("PatchOn of %q: %s is not right", bytes, briefScreen(got.Screen))
		}
	})
}
