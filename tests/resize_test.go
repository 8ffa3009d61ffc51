package tests

import (
	"fmt"
	"math"
	"slices"
	"strings"
	"testing"

	"loop.example/g00455/impl"
)

// resizedByText is Resize of what may be, by the document's words, step by step.
func resizedByText(s impl.Screen, wide int64, high int64) impl.Screen {
	var rows []string
	for _, row := range s.Rows {
		rows = append(rows, (row + strings.Repeat(" ", 20))[:wide])
	}
	row := s.Row
	for int64(len(rows)) > high && row > 0 {
		rows = rows[1:]
		row--
	}
	for int64(len(rows)) > high {
		rows = rows[:len(rows)-1]
	}
	for int64(len(rows)) < high {
		rows = append(rows, strings.Repeat(" ", int(wide)))
	}
	return impl.Screen{Rows: rows, Row: row, Col: min(s.Col, wide), Esc: s.Esc}
}

func TestResizeOfKnownScreens(t *testing.T) {
	rows := func(l ...string) []string { return l }
	l := rows("abc", "def", "ghi", "jkl")
	cases := []struct {
		s          impl.Screen
		wide, high int64
		want       impl.Screen
	}{
		{impl.Screen{Rows: l, Row: 2, Col: 3}, 3, 4, impl.Screen{Rows: l, Row: 2, Col: 3}},
		{impl.Screen{Rows: l, Row: 2, Col: 3}, 4, 4, impl.Screen{Rows: rows("abc ", "def ", "ghi ", "jkl "), Row: 2, Col: 3}},
		{impl.Screen{Rows: l, Row: 2, Col: 3}, 2, 4, impl.Screen{Rows: rows("ab", "de", "gh", "jk"), Row: 2, Col: 2}},
		{impl.Screen{Rows: l, Row: 2, Col: 2}, 2, 4, impl.Screen{Rows: rows("ab", "de", "gh", "jk"), Row: 2, Col: 2}},
		{impl.Screen{Rows: l, Row: 2, Col: 1}, 2, 4, impl.Screen{Rows: rows("ab", "de", "gh", "jk"), Row: 2, Col: 1}},
		{impl.Screen{Rows: l, Row: 3, Col: 3}, 1, 1, impl.Screen{Rows: rows("j"), Col: 1}},
		{impl.Screen{Rows: l, Row: 3}, 3, 5, impl.Screen{Rows: rows("abc", "def", "ghi", "jkl", "   "), Row: 3}},
		{impl.Screen{Rows: l, Row: 3}, 1, 6, impl.Screen{Rows: rows("a", "d", "g", "j", " ", " "), Row: 3}},
		{impl.Screen{Rows: l, Row: 0}, 3, 2, impl.Screen{Rows: rows("abc", "def")}},
		{impl.Screen{Rows: l, Row: 1}, 3, 2, impl.Screen{Rows: rows("def", "ghi")}},
		{impl.Screen{Rows: l, Row: 2}, 3, 2, impl.Screen{Rows: rows("ghi", "jkl")}},
		{impl.Screen{Rows: l, Row: 3}, 3, 2, impl.Screen{Rows: rows("ghi", "jkl"), Row: 1}},
		{impl.Screen{Rows: l, Row: 1}, 3, 3, impl.Screen{Rows: rows("def", "ghi", "jkl")}},
		{impl.Screen{Rows: l, Row: 1, Esc: "\x1b[1;2"}, 3, 1, impl.Screen{Rows: rows("def"), Esc: "\x1b[1;2"}},
		{impl.Screen{Rows: rows("a"), Col: 1, Esc: "\x1b"}, 20, 6,
			impl.Screen{Rows: append(rows("a"+strings.Repeat(" ", 19)), blankRows(20, 5)...), Col: 1, Esc: "\x1b"}},
	}
	for _, c := range cases {
		what := fmt.Sprintf("Resize of %s to %d %d", briefScreen(c.s), c.wide, c.high)
		wantScreen(t, what, impl.Resize(c.s, c.wide, c.high), impl.ScreenOut{Screen: c.want})
	}
}

// Each size to each size, from each row.
func TestResizeOfEachSize(t *testing.T) {
	for _, from := range []int{1, 2, 7, 19, 20} {
		for high := 1; high <= 6; high++ {
			for row := range high {
				s := printedScreen(from, high, row+from)
				s.Row = int64(row)
				for wide := int64(1); wide <= 20; wide++ {
					for to := int64(1); to <= 6; to++ {
						s.Col = (wide + to) % int64(from+1)
						got := impl.Resize(s, wide, to)
						wantScreen(t, fmt.Sprintf("Resize of %s to %d %d", briefScreen(s), wide, to), got, impl.ScreenOut{Screen: resizedByText(s, wide, to)})
						if !impl.ScreenRight(got.Screen) {
							t.Errorf("Resize to %d %d: %s is not right", wide, to, briefScreen(got.Screen))
						}
					}
				}
			}
		}
	}
}

func TestResizeColAtTheEdges(t *testing.T) {
	for col := range int64(8) {
		s := impl.Screen{Rows: []string{"abcdefg"}, Col: col}
		for wide := int64(1); wide <= 20; wide++ {
			got := impl.Resize(s, wide, 1).Screen
			if got.Col != min(col, wide) {
				t.Errorf("Resize of Col %d to %d: Col is %d", col, wide, got.Col)
			}
		}
	}
}

func TestResizeToWrongSizes(t *testing.T) {
	s := impl.Screen{Rows: []string{"abc", "def"}, Row: 1, Col: 2}
	for _, wrong := range []int64{math.MinInt64, -20, -1, 0, 21, 22, 1 << 32, 1<<32 + 2, math.MaxInt64} {
		for _, other := range []int64{math.MinInt64, -1, 0, 1, 2, 3, 6, 7, 20, 21, math.MaxInt64} {
			wantScreen(t, fmt.Sprint("Resize to ", wrong, " ", other), impl.Resize(s, wrong, other), impl.ScreenOut{Code: impl.ErrForm})
			wantScreen(t, fmt.Sprint("Resize to ", other, " ", wrong), impl.Resize(s, other, wrong), impl.ScreenOut{Code: impl.ErrForm})
		}
	}
	for _, high := range []int64{7, 8, 20} {
		wantScreen(t, fmt.Sprint("Resize to 3 ", high), impl.Resize(s, 3, high), impl.ScreenOut{Code: impl.ErrForm})
	}
}

func TestResizeLeavesItsArgument(t *testing.T) {
	for _, size := range [][2]int64{{4, 2}, {5, 2}, {3, 2}, {4, 1}, {4, 3}, {4, 6}, {20, 6}, {0, 2}} {
		room := []string{"abcd", "efgh", "behind", "behind it"}
		s := ownMemory(impl.Screen{Rows: room, Row: 1, Col: 4, Esc: "\x1b[1"})
		s.Rows = s.Rows[:2]
		got := impl.Resize(s, size[0], size[1]).Screen
		if !slices.Equal(s.Rows[:4], room) {
			t.Errorf("Resize to %v: the argument's rows are %q", size, s.Rows[:4])
		}
		wantNewMemory(t, fmt.Sprint("Resize to ", size), textsOf(s), textsOf(got))
		for i := range got.Rows {
			got.Rows[i] = "turned"
		}
		if !slices.Equal(s.Rows[:4], room) {
			t.Errorf("Resize to %v: the argument changes with the answer to %q", size, s.Rows)
		}
	}
}
