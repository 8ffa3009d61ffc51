package tests

import (
	"math"
	"slices"
	"testing"

	"loop.example/g00455/impl"
)

// sameWindow takes an empty list and none for the same.
func sameWindow(a impl.Window, b impl.Window) bool {
	return a.Epoch == b.Epoch && a.Top == b.Top && slices.Equal(a.Seen, b.Seen)
}

func wantTake(t *testing.T, w impl.Window, epoch int64, count int64, want impl.WindowOut) {
	t.Helper()
	got := impl.WindowTake(w, epoch, count)
	if got.Code != want.Code || !sameWindow(got.Window, want.Window) {
		t.Errorf("WindowTake(%.99v, %d, %d): got %v, want %v", w, epoch, count, got, want)
	}
}

// counts are those from the first up to the last one.
func counts(first int64, last int64) []int64 {
	var out []int64
	for n := first; n <= last; n++ {
		out = append(out, n)
	}
	return out
}

func TestWindowRightAtTheEdges(t *testing.T) {
	cases := []struct {
		w     impl.Window
		right bool
	}{
		{impl.Window{}, true},
		{impl.Window{Top: -1}, true},
		{impl.Window{Top: -2}, false},
		{impl.Window{Epoch: -1}, false},
		{impl.Window{Epoch: 200, Top: 2000}, true},
		{impl.Window{Epoch: 201, Top: 2000}, false},
		{impl.Window{Epoch: 200, Top: 2001}, false},
		{impl.Window{Epoch: math.MaxInt64}, false},
		{impl.Window{Epoch: math.MinInt64}, false},
		{impl.Window{Top: math.MaxInt64}, false},
		{impl.Window{Top: math.MinInt64}, false},
		{impl.Window{Top: math.MinInt64, Seen: []int64{math.MaxInt64}}, false},
		{impl.Window{Top: math.MinInt64, Seen: []int64{0}}, false},
		{impl.Window{Top: 5, Seen: []int64{}}, true},
		{impl.Window{Top: 5, Seen: []int64{math.MaxInt64}}, false},
		{impl.Window{Top: 5, Seen: []int64{math.MinInt64}}, false},
		{impl.Window{Top: 5, Seen: []int64{math.MinInt64, 4}}, false},
		{impl.Window{Top: 5, Seen: []int64{4, math.MaxInt64}}, false},
		{impl.Window{Top: -1, Seen: []int64{-1}}, false},
		{impl.Window{Top: -1, Seen: []int64{-2}}, false},
		{impl.Window{Top: -1, Seen: []int64{0}}, false},
		{impl.Window{Top: 0, Seen: []int64{-1}}, false},
		{impl.Window{Top: 0, Seen: []int64{0}}, false},
		{impl.Window{Top: 1, Seen: []int64{0}}, true},
		{impl.Window{Top: 5, Seen: []int64{-1, 3}}, false},
		{impl.Window{Top: 16, Seen: counts(0, 15)}, true},
		{impl.Window{Top: 16, Seen: counts(0, 16)}, false},
		{impl.Window{Top: 16, Seen: counts(-1, 14)}, false},
		{impl.Window{Top: 17, Seen: counts(1, 16)}, true},
		{impl.Window{Top: 17, Seen: counts(0, 15)}, false},
		{impl.Window{Top: 17, Seen: counts(0, 16)}, false},
		{impl.Window{Top: 17, Seen: []int64{0}}, false},
		{impl.Window{Top: 17, Seen: []int64{1}}, true},
		{impl.Window{Top: 17, Seen: []int64{16}}, true},
		{impl.Window{Top: 17, Seen: []int64{17}}, false},
		{impl.Window{Top: 17, Seen: []int64{18}}, false},
		{impl.Window{Top: 2000, Seen: counts(1984, 1999)}, true},
		{impl.Window{Top: 2000, Seen: counts(1983, 1998)}, false},
		{impl.Window{Top: 2001, Seen: counts(1985, 2000)}, false},
		{impl.Window{Top: 30, Seen: []int64{20, 22, 29}}, true},
		{impl.Window{Top: 30, Seen: []int64{20, 20}}, false},
		{impl.Window{Top: 30, Seen: []int64{22, 20}}, false},
		{impl.Window{Top: 30, Seen: []int64{20, 25, 24, 29}}, false},
		{impl.Window{Top: 30, Seen: []int64{20, 29, 29}}, false},
		{impl.Window{Top: 30, Seen: []int64{20, 30}}, false},
		{impl.Window{Top: 30, Seen: []int64{13, 20}}, false},
		{impl.Window{Top: 30, Seen: slices.Repeat([]int64{20}, 16)}, false},
		{impl.Window{Top: 30, Seen: slices.Repeat([]int64{20}, 17)}, false},
		{impl.Window{Top: 2000, Seen: counts(1600, 1999)}, false},
		{impl.Window{Top: 2000, Seen: counts(1599, 1999)}, false},
		{impl.Window{Top: 2000, Seen: counts(0, 1999)}, false},
	}
	for _, c := range cases {
		if got := impl.WindowRight(c.w); got != c.right {
			t.Errorf("WindowRight(%.99v): got %t", c.w, got)
		}
		// A window that is not right is refused, whatever else is wrong; a list in it is never too long as such.
		if !c.right {
			for _, taken := range [][2]int64{{0, 0}, {200, 2000}, {0, 20}, {-1, 0}, {0, -1}, {201, 2001}} {
				wantTake(t, c.w, taken[0], taken[1], impl.WindowOut{Code: impl.ErrForm})
			}
		}
	}
}

func TestWindowTakesWhatIsNew(t *testing.T) {
	w := impl.Window{Epoch: 3, Top: 30, Seen: []int64{14, 20, 29}}
	cases := []struct {
		w            impl.Window
		epoch, count int64
		want         impl.Window
	}{
		{impl.Window{Top: -1}, 0, 0, impl.Window{}},
		{impl.Window{Top: -1}, 0, 5, impl.Window{Top: 5}},
		{impl.Window{Top: -1}, 0, 2000, impl.Window{Top: 2000}},
		{impl.Window{Top: -1}, 200, 0, impl.Window{Epoch: 200}},
		{impl.Window{}, 0, 1, impl.Window{Top: 1, Seen: []int64{0}}},
		{impl.Window{}, 0, 16, impl.Window{Top: 16, Seen: []int64{0}}},
		{impl.Window{}, 0, 17, impl.Window{Top: 17}},
		{impl.Window{Top: 5}, 0, 0, impl.Window{Top: 5, Seen: []int64{0}}},
		{impl.Window{Top: 5, Seen: []int64{3}}, 0, 4, impl.Window{Top: 5, Seen: []int64{3, 4}}},
		{impl.Window{Top: 16}, 0, 0, impl.Window{Top: 16, Seen: []int64{0}}},
		{impl.Window{Top: 17}, 0, 1, impl.Window{Top: 17, Seen: []int64{1}}},
		{impl.Window{Top: 30, Seen: []int64{20}}, 0, 14, impl.Window{Top: 30, Seen: []int64{14, 20}}},
		{w, 3, 15, impl.Window{Epoch: 3, Top: 30, Seen: []int64{14, 15, 20, 29}}},
		{w, 3, 28, impl.Window{Epoch: 3, Top: 30, Seen: []int64{14, 20, 28, 29}}},
		{w, 3, 31, impl.Window{Epoch: 3, Top: 31, Seen: []int64{20, 29, 30}}},
		{w, 3, 36, impl.Window{Epoch: 3, Top: 36, Seen: []int64{20, 29, 30}}},
		{w, 3, 37, impl.Window{Epoch: 3, Top: 37, Seen: []int64{29, 30}}},
		{w, 3, 46, impl.Window{Epoch: 3, Top: 46, Seen: []int64{30}}},
		{w, 3, 47, impl.Window{Epoch: 3, Top: 47}},
		{w, 3, 2000, impl.Window{Epoch: 3, Top: 2000}},
		{w, 4, 0, impl.Window{Epoch: 4}},
		{w, 4, 30, impl.Window{Epoch: 4, Top: 30}},
		{w, 4, 20, impl.Window{Epoch: 4, Top: 20}},
		{w, 4, 31, impl.Window{Epoch: 4, Top: 31}},
		{w, 200, 2000, impl.Window{Epoch: 200, Top: 2000}},
		{impl.Window{Top: 16, Seen: counts(0, 15)}, 0, 17, impl.Window{Top: 17, Seen: counts(1, 16)}},
		{impl.Window{Top: 16, Seen: counts(0, 15)}, 0, 32, impl.Window{Top: 32, Seen: []int64{16}}},
		{impl.Window{Top: 2000, Seen: counts(1985, 1999)}, 0, 1984, impl.Window{Top: 2000, Seen: counts(1984, 1999)}},
	}
	for _, c := range cases {
		wantTake(t, c.w, c.epoch, c.count, impl.WindowOut{Window: c.want})
	}
}

func TestWindowTakeFaultsInOrder(t *testing.T) {
	w := impl.Window{Epoch: 3, Top: 30, Seen: []int64{14, 20, 29}}
	cases := []struct {
		w                  impl.Window
		epoch, count, code int64
	}{
		{w, -1, 31, impl.ErrForm},
		{w, 201, 31, impl.ErrForm},
		{w, 3, -1, impl.ErrForm},
		{w, 3, 2001, impl.ErrForm},
		{w, 4, 2001, impl.ErrForm},
		{w, 2, 2001, impl.ErrForm},
		{w, 2, -1, impl.ErrForm},
		{w, 201, 30, impl.ErrForm},
		{w, math.MaxInt64, 31, impl.ErrForm},
		{w, math.MinInt64, 31, impl.ErrForm},
		{w, 3, math.MaxInt64, impl.ErrForm},
		{w, 3, math.MinInt64, impl.ErrForm},
		{w, math.MaxInt64, math.MaxInt64, impl.ErrForm},
		{w, math.MinInt64, math.MinInt64, impl.ErrForm},
		{impl.Window{Top: -1}, 0, -1, impl.ErrForm},
		{w, 2, 31, impl.ErrOld},
		{w, 2, 30, impl.ErrOld},
		{w, 2, 20, impl.ErrOld},
		{w, 0, 2000, impl.ErrOld},
		{w, 3, 13, impl.ErrOld},
		{w, 3, 0, impl.ErrOld},
		{impl.Window{Top: 17}, 0, 0, impl.ErrOld},
		{impl.Window{Top: 2000}, 0, 1983, impl.ErrOld},
		{impl.Window{Epoch: 1, Top: -1}, 0, 0, impl.ErrOld},
		{w, 3, 30, impl.ErrThere},
		{w, 3, 14, impl.ErrThere},
		{w, 3, 20, impl.ErrThere},
		{w, 3, 29, impl.ErrThere},
		{impl.Window{}, 0, 0, impl.ErrThere},
		{impl.Window{Top: 2000}, 0, 2000, impl.ErrThere},
		{impl.Window{Top: 16, Seen: counts(0, 15)}, 0, 0, impl.ErrThere},
	}
	for _, c := range cases {
		wantTake(t, c.w, c.epoch, c.count, impl.WindowOut{Code: c.code})
	}
}

// takeByText is WindowTake of what is right, by the document's words, without a map.
func takeByText(w impl.Window, epoch int64, count int64) impl.WindowOut {
	switch {
	case epoch < w.Epoch || epoch == w.Epoch && count < w.Top-16:
		return impl.WindowOut{Code: impl.ErrOld}
	case epoch == w.Epoch && (count == w.Top || slices.Contains(w.Seen, count)):
		return impl.WindowOut{Code: impl.ErrThere}
	case epoch > w.Epoch:
		return impl.WindowOut{Window: impl.Window{Epoch: epoch, Top: count}}
	}
	out := impl.Window{Epoch: epoch, Top: max(w.Top, count)}
	for n := max(0, out.Top-16); n < out.Top; n++ {
		if n == min(w.Top, count) || slices.Contains(w.Seen, n) {
			out.Seen = append(out.Seen, n)
		}
	}
	return impl.WindowOut{Window: out}
}

// seenOf is some of the counts below top, picked by the bits.
func seenOf(top int64, bits uint) []int64 {
	var out []int64
	for n := max(0, top-16); n < top; n++ {
		if bits>>(top-1-n)&1 == 1 {
			out = append(out, n)
		}
	}
	return out
}

func TestWindowTakeOfAllCounts(t *testing.T) {
	for _, top := range []int64{-1, 0, 1, 2, 15, 16, 17, 18, 32, 40, 1983, 1984, 1999, 2000} {
		for _, bits := range []uint{0, 1, 1 << 15, 1<<15 | 1, 0x5555, 0xaaaa, 0xfffe, 0x7fff, 0xffff} {
			w := impl.Window{Epoch: 7, Top: top, Seen: seenOf(top, bits)}
			if !impl.WindowRight(w) {
				t.Errorf("WindowRight(%v): false", w)
			}
			for count := max(0, top-40); count <= min(2000, top+40); count++ {
				for _, epoch := range []int64{0, 6, 7, 8, 200} {
					wantTake(t, w, epoch, count, takeByText(w, epoch, count))
				}
			}
		}
	}
}

// takes is a row of grams that come over the line, mixed and doubled the same way each time.
func takes(seed uint64, size int) [][2]int64 {
	var out [][2]int64
	var epoch, at int64
	for range size {
		seed = seed*6364136223846793005 + 1442695040888963407
		r := int64(seed >> 40)
		switch {
		case r%97 == 0:
			epoch, at = epoch+1, 0
		case r%5 == 0:
			at += r / 5 % 3
		case r%41 == 0:
			at += 20
		}
		out = append(out, [2]int64{max(0, min(200, epoch-r/128%20/19)), max(0, min(2000, at+r/4096%24-16))})
	}
	return out
}

// Promise 7.
func TestTakenOnceIsTakenNoMore(t *testing.T) {
	for seed := range uint64(60) {
		w := impl.Window{Top: -1}
		taken := map[[2]int64]int{}
		var order [][2]int64
		for _, one := range takes(seed, 400) {
			got := impl.WindowTake(w, one[0], one[1])
			if want := takeByText(w, one[0], one[1]); got.Code != want.Code || !sameWindow(got.Window, want.Window) {
				t.Fatalf("WindowTake(%v, %d, %d): got %v, want %v", w, one[0], one[1], got, want)
			}
			if got.Code != impl.OK {
				continue
			}
			w = got.Window
			taken[one]++
			order = append(order, one)
			if taken[one] > 1 || !impl.WindowRight(w) {
				t.Fatalf("%v was taken %d times; the window %v", one, taken[one], w)
			}
			for _, old := range order {
				if again := impl.WindowTake(w, old[0], old[1]).Code; again != impl.ErrThere && again != impl.ErrOld {
					t.Fatalf("%v was taken, and %v, code %d, takes it once more", old, w, again)
				}
			}
		}
		if len(order) < 30 {
			t.Errorf("the row of seed %d takes only %d", seed, len(order))
		}
	}
}

// All counts of an epoch in order, each once more at once and behind the next one; then a greater epoch.
func TestWindowTakesCountsInOrder(t *testing.T) {
	w := impl.Window{Top: -1}
	for count := range int64(2001) {
		got := impl.WindowTake(w, 0, count)
		want := impl.Window{Top: count, Seen: counts(max(0, count-16), count-1)}
		if got.Code != impl.OK || !sameWindow(got.Window, want) {
			t.Fatalf("WindowTake(%v, 0, %d): got %v", w, count, got)
		}
		w = got.Window
		wantTake(t, w, 0, count, impl.WindowOut{Code: impl.ErrThere})
		if count > 16 {
			wantTake(t, w, 0, count-17, impl.WindowOut{Code: impl.ErrOld})
		}
	}
	wantTake(t, w, 1, 2000, impl.WindowOut{Window: impl.Window{Epoch: 1, Top: 2000}})
}

func TestWindowTakeLeavesItsArgument(t *testing.T) {
	for _, one := range [][2]int64{{3, 31}, {3, 15}, {3, 25}, {3, 47}, {3, 2000}, {4, 5}, {3, 20}, {3, 2}, {2, 9}, {-1, 0}} {
		// Room behind Seen, so that what is put behind it in place would be seen.
		room := []int64{14, 20, 29, 77, 78, 79}
		w := impl.Window{Epoch: 3, Top: 30, Seen: room[:3]}
		got := impl.WindowTake(w, one[0], one[1]).Window
		if !slices.Equal(room, []int64{14, 20, 29, 77, 78, 79}) {
			t.Errorf("WindowTake of %v: Seen is %v", one, room)
		}
		before := slices.Clone(got.Seen)
		for i := range room {
			room[i] = -9
		}
		if !slices.Equal(got.Seen, before) {
			t.Errorf("WindowTake of %v: the answer %v changes with the argument to %v", one, before, got.Seen)
		}
		for i := range got.Seen[:cap(got.Seen)] {
			got.Seen[:cap(got.Seen)][i] = -8
		}
		if slices.Contains(room, -8) {
			t.Errorf("WindowTake of %v: the argument %v changes with the answer", one, room)
		}
	}
	falling := []int64{29, 20, 14}
	if impl.WindowRight(impl.Window{Top: 30, Seen: falling}) || !slices.Equal(falling, []int64{29, 20, 14}) {
		t.Errorf("WindowRight of a Seen that falls: Seen is %v", falling)
	}
}

func FuzzWindows(f *testing.F) {
	f.Add(int64(0), int64(-1), uint(0), int64(0), int64(5))
	f.Add(int64(3), int64(30), uint(0x8201), int64(3), int64(14))
	f.Add(int64(201), int64(2001), uint(0xffff), int64(math.MinInt64), int64(math.MaxInt64))
	f.Fuzz(func(t *testing.T, inEpoch int64, top int64, bits uint, epoch int64, count int64) {
		w := impl.Window{Epoch: inEpoch, Top: top}
		if top >= -1 && top <= 2000 {
			w.Seen = seenOf(top, bits&0xffff)
		}
		right := inEpoch >= 0 && inEpoch <= 200 && top >= -1 && top <= 2000
		if impl.WindowRight(w) != right {
			t.Errorf("WindowRight(%v): got %t", w, !right)
		}
		if !right || epoch < 0 || epoch > 200 || count < 0 || count > 2000 {
			wantTake(t, w, epoch, count, impl.WindowOut{Code: impl.ErrForm})
			return
		}
		wantTake(t, w, epoch, count, takeByText(w, epoch, count))
		if got := impl.WindowTake(w, epoch, count); got.Code == impl.OK {
			wantTake(t, got.Window, epoch, count, impl.WindowOut{Code: impl.ErrThere})
		}
	})
}
