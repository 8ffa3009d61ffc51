package tests

import (
	"fmt"
	"math"
	"strings"
	"testing"

	"loop.example/g00455/impl"
)

// briefState tells a state without what is too long.
func briefState(s impl.State) string {
	return fmt.Sprintf("{%d: %d bytes %.20q}", s.N, len(s.Text), s.Text)
}

func briefUpdate(u impl.Update) string {
	return fmt.Sprintf("{%d to %d keep %d tail %d bytes %.20q}", u.From, u.To, u.Keep, len(u.Tail), u.Tail)
}

func wantUpdate(t *testing.T, what string, got impl.Update, want impl.Update) {
	t.Helper()
	if got != want {
		t.Errorf("%s: got %s, want %s", what, briefUpdate(got), briefUpdate(want))
	}
}

func wantReceiver(t *testing.T, what string, got impl.ReceiverOut, want impl.ReceiverOut) {
	t.Helper()
	if got != want {
		t.Errorf("%s: got %s Code %d, want %s Code %d",
			what, briefState(got.Receiver.State), got.Code, briefState(want.Receiver.State), want.Code)
	}
}

// holding is what a call tells that makes that state.
func holding(n int64, text string) impl.ReceiverOut {
	return impl.ReceiverOut{Receiver: impl.Receiver{State: impl.State{N: n, Text: text}}}
}

// timeEdges are numbers for N, From and To; not all may be.
func timeEdges() []int64 {
	return []int64{math.MinInt64, -1, 0, 1, impl.MaxTime - 1, impl.MaxTime, impl.MaxTime + 1, math.MaxInt64}
}

// stateSizes are of texts; those above 400 may not be.
func stateSizes() []int {
	return []int{0, 1, 2, 200, 399, 400, 401, impl.MaxBytes, impl.MaxBytes + 1}
}

// stateByText: is it right by the document's words?
func stateByText(s impl.State) bool {
	return s.N >= 0 && s.N <= 1000000 && len(s.Text) <= 400
}

// deltaByText is what DeltaOf tells by the document's words.
func deltaByText(from impl.State, to impl.State) impl.Update {
	if !stateByText(from) || !stateByText(to) {
		return impl.Update{}
	}
	keep := 0
	for keep < len(to.Text) && strings.HasPrefix(from.Text, to.Text[:keep+1]) {
		keep++
	}
	return impl.Update{From: from.N, To: to.N, Keep: int64(keep), Tail: to.Text[keep:]}
}

// putOnByText is what DeltaOn tells by the document's words.
func putOnByText(s impl.State, u impl.Update) impl.ReceiverOut {
	if !stateByText(s) || u.To < 0 || u.To > 1000000 || u.Keep < 0 || len(u.Tail) > 400 {
		return impl.ReceiverOut{Code: impl.ErrForm}
	}
	if u.From != s.N {
		return impl.ReceiverOut{Code: impl.ErrState}
	}
	if u.Keep > int64(len(s.Text)) || int(u.Keep)+len(u.Tail) > 400 {
		return impl.ReceiverOut{Code: impl.ErrRange}
	}
	return holding(u.To, s.Text[:u.Keep]+u.Tail)
}

// heardByText is what ReceiverHear tells by the document's words.
func heardByText(r impl.Receiver, u impl.Update) impl.ReceiverOut {
	if !stateByText(r.State) {
		return impl.ReceiverOut{Code: impl.ErrForm}
	}
	if u.To <= r.State.N {
		return impl.ReceiverOut{Code: impl.ErrOld}
	}
	return putOnByText(r.State, u)
}

// wantPutOn: both calls that put an update on a state tell what the document's words do.
func wantPutOn(t *testing.T, s impl.State, u impl.Update) {
	t.Helper()
	what := briefUpdate(u) + " on " + briefState(s)
	wantReceiver(t, "DeltaOn of "+what, impl.DeltaOn(s, u), putOnByText(s, u))
	r := impl.Receiver{State: s}
	wantReceiver(t, "ReceiverHear of "+what, impl.ReceiverHear(r, u), heardByText(r, u))
}

// stateTexts begin alike for none, some or all of their bytes.
func stateTexts() []string {
	return []string{
		"", "a", "b", "ab", "aB", "abc", "abd", "xbc", "abcabc", "\x00", "\x00a", "\xff", "\xff\xfe", "\u00e9", "\u00e8", "\u00e9\u00e8",
		sample(199), sample(200), sample(399), sample(400), sample(399) + "~", "~" + sample(399), sample(200) + strings.Repeat("~", 200),
		strings.Repeat("a", 399), strings.Repeat("a", 400), strings.Repeat("a", 399) + "b", strings.Repeat("b", 400),
	}
}

func TestSyncLimits(t *testing.T) {
	if impl.MaxStates != 8 {
		t.Errorf("MaxStates: %d", impl.MaxStates)
	}
}

func TestDeltaOfKnownStates(t *testing.T) {
	state := func(n int64, text string) impl.State { return impl.State{N: n, Text: text} }
	cases := []struct {
		from, to impl.State
		want     impl.Update
	}{
		{state(0, ""), state(0, ""), impl.Update{}},
		{state(0, ""), state(1, "ab"), impl.Update{To: 1, Tail: "ab"}},
		{state(1, "ab"), state(2, ""), impl.Update{From: 1, To: 2}},
		{state(1, "ab"), state(2, "abc"), impl.Update{From: 1, To: 2, Keep: 2, Tail: "c"}},
		{state(1, "abc"), state(2, "ab"), impl.Update{From: 1, To: 2, Keep: 2}},
		{state(1, "abc"), state(2, "abc"), impl.Update{From: 1, To: 2, Keep: 3}},
		{state(1, "abc"), state(1, "abc"), impl.Update{From: 1, To: 1, Keep: 3}},
		{state(1, "abc"), state(1, "abd"), impl.Update{From: 1, To: 1, Keep: 2, Tail: "d"}},
		{state(1, "abc"), state(9, "xbc"), impl.Update{From: 1, To: 9, Tail: "xbc"}},
		{state(1, "abxab"), state(2, "abyab"), impl.Update{From: 1, To: 2, Keep: 2, Tail: "yab"}},
		{state(1, "\u00e9"), state(2, "\u00e8"), impl.Update{From: 1, To: 2, Keep: 1, Tail: "\xa8"}},
		{state(9, "b"), state(3, "a"), impl.Update{From: 9, To: 3, Tail: "a"}},
		{state(1000000, "a"), state(0, "a"), impl.Update{From: 1000000, Keep: 1}},
		{state(0, "a"), state(1000000, "a"), impl.Update{To: 1000000, Keep: 1}},
	}
	for _, c := range cases {
		wantUpdate(t, "DeltaOf "+briefState(c.from)+" and "+briefState(c.to), impl.DeltaOf(c.from, c.to), c.want)
	}
}

// edgeStates are of each number with each size; not all are right.
func edgeStates() []impl.State {
	var out []impl.State
	for _, n := range timeEdges() {
		for _, size := range stateSizes() {
			out = append(out, impl.State{N: n, Text: sample(size)})
		}
	}
	return out
}

func TestDeltaOfTheEdges(t *testing.T) {
	for _, from := range edgeStates() {
		for _, to := range edgeStates() {
			wantUpdate(t, "DeltaOf "+briefState(from)+" and "+briefState(to), impl.DeltaOf(from, to), deltaByText(from, to))
		}
	}
}

// Promise 13: of each pair of states, also where the number falls or stays.
func TestDeltaMakesAStateTheOther(t *testing.T) {
	numbers := [][2]int64{{0, 1}, {0, 0}, {1, 0}, {5, 9}, {0, 1000000}, {999999, 1000000}, {1000000, 0}, {1000000, 1000000}}
	for _, n := range numbers {
		for _, a := range stateTexts() {
			for _, b := range stateTexts() {
				wantMadeState(t, impl.State{N: n[0], Text: a}, impl.State{N: n[1], Text: b})
			}
		}
	}
}

// wantMadeState: what makes one state the other makes it that, keeps as much as it can, and is refused by states of
// other numbers.
func wantMadeState(t *testing.T, from impl.State, to impl.State) {
	t.Helper()
	u := impl.DeltaOf(from, to)
	what := "what makes " + briefState(from) + " the state " + briefState(to)
	wantUpdate(t, what, u, deltaByText(from, to))
	wantReceiver(t, what, impl.DeltaOn(from, u), holding(to.N, to.Text))
	heard := holding(to.N, to.Text)
	if to.N <= from.N {
		heard = impl.ReceiverOut{Code: impl.ErrOld}
	}
	wantReceiver(t, what+", heard", impl.ReceiverHear(impl.Receiver{State: from}, u), heard)
	for _, n := range timeEdges() {
		other := impl.State{N: n, Text: from.Text}
		if n != from.N && stateByText(other) {
			wantReceiver(t, what+", on "+briefState(other), impl.DeltaOn(other, u), impl.ReceiverOut{Code: impl.ErrState})
		}
		wantPutOn(t, other, u)
	}
}

// What is put on a state of the same number and another text keeps the bytes that stand there.
func TestDeltaOnAnotherText(t *testing.T) {
	u := impl.DeltaOf(impl.State{N: 1, Text: "abcd"}, impl.State{N: 2, Text: "abxyz"})
	cases := []struct {
		text string
		want impl.ReceiverOut
	}{
		{"abcd", holding(2, "abxyz")},
		{"ABCD", holding(2, "ABxyz")},
		{"qr", holding(2, "qrxyz")},
		{"q", impl.ReceiverOut{Code: impl.ErrRange}},
		{"", impl.ReceiverOut{Code: impl.ErrRange}},
	}
	for _, c := range cases {
		wantReceiver(t, c.text, impl.DeltaOn(impl.State{N: 1, Text: c.text}, u), c.want)
	}
}

func TestUpdatesAtTheEdges(t *testing.T) {
	s := impl.State{N: 5, Text: sample(300)}
	full := impl.State{N: 5, Text: sample(400)}
	update := func(keep int64, tail int) impl.Update {
		return impl.Update{From: 5, To: 6, Keep: keep, Tail: sample(tail)}
	}
	cases := []struct {
		s    impl.State
		u    impl.Update
		code int64
	}{
		{s, update(-1, 0), impl.ErrForm},
		{s, update(0, 0), impl.OK},
		{s, update(299, 0), impl.OK},
		{s, update(300, 0), impl.OK},
		{s, update(301, 0), impl.ErrRange},
		{s, update(0, 399), impl.OK},
		{s, update(0, 400), impl.OK},
		{s, update(0, 401), impl.ErrForm},
		{s, update(1, 399), impl.OK},
		{s, update(1, 400), impl.ErrRange},
		{s, update(300, 99), impl.OK},
		{s, update(300, 100), impl.OK},
		{s, update(300, 101), impl.ErrRange},
		{s, update(301, 99), impl.ErrRange},
		{s, update(300, 400), impl.ErrRange},
		{full, update(400, 0), impl.OK},
		{full, update(401, 0), impl.ErrRange},
		{full, update(400, 1), impl.ErrRange},
		{full, update(399, 1), impl.OK},
		{full, update(0, 400), impl.OK},
		{s, update(math.MaxInt64, 0), impl.ErrRange},
		{s, update(math.MaxInt64, 400), impl.ErrRange},
		{s, update(math.MaxInt64-399, 400), impl.ErrRange},
		{s, update(math.MinInt64, 0), impl.ErrForm},
		{s, update(math.MinInt64, 400), impl.ErrForm},
		{s, update(0, impl.MaxBytes), impl.ErrForm},
		// A Tail is a field, so there is no ErrSize.
		{s, update(0, impl.MaxBytes+1), impl.ErrForm},
	}
	for _, c := range cases {
		want := impl.ReceiverOut{Code: c.code}
		if c.code == impl.OK {
			want = holding(6, c.s.Text[:c.u.Keep]+c.u.Tail)
		}
		what := briefUpdate(c.u) + " on " + briefState(c.s)
		wantReceiver(t, "DeltaOn of "+what, impl.DeltaOn(c.s, c.u), want)
		wantReceiver(t, "ReceiverHear of "+what, impl.ReceiverHear(impl.Receiver{State: c.s}, c.u), want)
	}
}

// keepEdges are about the size of the state's text, and where Keep and Tail are 400 together.
func keepEdges(size int, tail int) []int64 {
	edges := []int64{math.MinInt64, -1, 0, 1, math.MaxInt64 - 400, math.MaxInt64}
	for _, edge := range []int{size, 400 - tail, 400} {
		edges = append(edges, int64(edge)-1, int64(edge), int64(edge)+1)
	}
	return edges
}

func TestUpdatesOfAllEdges(t *testing.T) {
	for _, s := range edgeStates() {
		for _, from := range []int64{s.N, s.N - 1, s.N + 1, 0, impl.MaxTime, math.MinInt64, math.MaxInt64} {
			for _, to := range append(timeEdges(), s.N, s.N-1, s.N+1) {
				for _, tail := range []int{0, 1, 200, 400, 401} {
					for _, keep := range keepEdges(len(s.Text), tail) {
						u := impl.Update{From: from, To: to, Keep: keep, Tail: sample(tail)}
						wantPutOn(t, s, u)
					}
				}
			}
		}
	}
}

func TestDeltaOnFaultsInOrder(t *testing.T) {
	s := impl.State{N: 5, Text: "abc"}
	wrong := []impl.State{{N: -1, Text: "abc"}, {N: 1000001, Text: "abc"}, {N: 5, Text: sample(401)}, {N: math.MinInt64}, {N: math.MaxInt64}}
	for _, state := range wrong {
		for _, u := range []impl.Update{{}, {From: state.N, To: 6}, {From: 9, To: 6}, {From: state.N, To: 6, Keep: 999}} {
			wantReceiver(t, "DeltaOn "+briefState(state), impl.DeltaOn(state, u), impl.ReceiverOut{Code: impl.ErrForm})
		}
	}
	cases := []struct {
		u    impl.Update
		code int64
	}{
		{impl.Update{From: 5, To: 6, Keep: 3, Tail: "d"}, impl.OK},
		{impl.Update{From: 5, To: 0, Keep: 3, Tail: "d"}, impl.OK},
		{impl.Update{From: 5, To: 5, Keep: 3, Tail: "d"}, impl.OK},
		{impl.Update{From: 5, To: -1, Keep: 4}, impl.ErrForm},
		{impl.Update{From: 6, To: 1000001, Keep: 4}, impl.ErrForm},
		{impl.Update{From: 6, To: math.MaxInt64}, impl.ErrForm},
		{impl.Update{From: 6, To: math.MinInt64}, impl.ErrForm},
		{impl.Update{From: 6, To: 6, Keep: -1}, impl.ErrForm},
		{impl.Update{From: 6, To: 6, Keep: 4, Tail: sample(401)}, impl.ErrForm},
		{impl.Update{From: 6, To: 6, Keep: 4}, impl.ErrState},
		{impl.Update{From: 4, To: 6, Keep: 3, Tail: sample(400)}, impl.ErrState},
		{impl.Update{From: -5, To: 6}, impl.ErrState},
		{impl.Update{From: math.MinInt64, To: 6}, impl.ErrState},
		{impl.Update{From: math.MaxInt64, To: 6}, impl.ErrState},
		{impl.Update{From: 5, To: 6, Keep: 4}, impl.ErrRange},
		{impl.Update{From: 5, To: 6, Keep: 3, Tail: sample(398)}, impl.ErrRange},
	}
	for _, c := range cases {
		want := impl.ReceiverOut{Code: c.code}
		if c.code == impl.OK {
			want = holding(c.u.To, "abcd")
		}
		wantReceiver(t, "DeltaOn of "+briefUpdate(c.u), impl.DeltaOn(s, c.u), want)
	}
}

func TestReceiverHearFaultsInOrder(t *testing.T) {
	right := impl.State{N: 5, Text: "abc"}
	long := impl.State{N: 5, Text: sample(401)}
	late := impl.State{N: 1000001, Text: "abc"}
	early := impl.State{N: -1, Text: "abc"}
	cases := []struct {
		s    impl.State
		u    impl.Update
		code int64
	}{
		{right, impl.Update{From: 5, To: 6, Keep: 3, Tail: "d"}, impl.OK},
		{right, impl.Update{From: 5, To: 1000000, Keep: 3, Tail: "d"}, impl.OK},
		{long, impl.Update{From: 5, To: 5}, impl.ErrForm},
		{long, impl.Update{From: 5, To: 6}, impl.ErrForm},
		{late, impl.Update{From: 5, To: 6}, impl.ErrForm},
		{late, impl.Update{From: 1000001, To: 1000002}, impl.ErrForm},
		{early, impl.Update{From: -1, To: 0}, impl.ErrForm},
		{early, impl.Update{From: -1, To: -1}, impl.ErrForm},
		{right, impl.Update{From: 5, To: 5, Keep: 3}, impl.ErrOld},
		{right, impl.Update{From: 5, To: 4, Keep: 3}, impl.ErrOld},
		{right, impl.Update{From: 5, To: 0, Keep: 3}, impl.ErrOld},
		// What is old is told ahead of what is wrong.
		{right, impl.Update{From: 5, To: -1, Keep: 3}, impl.ErrOld},
		{right, impl.Update{From: 5, To: math.MinInt64, Keep: -1}, impl.ErrOld},
		{right, impl.Update{From: 5, To: 5, Keep: -1}, impl.ErrOld},
		{right, impl.Update{From: 5, To: 5, Tail: sample(401)}, impl.ErrOld},
		{right, impl.Update{From: 6, To: 5, Keep: 4}, impl.ErrOld},
		{right, impl.Update{}, impl.ErrOld},
		{right, impl.Update{From: 6, To: 1000001, Keep: 4}, impl.ErrForm},
		{right, impl.Update{From: 6, To: math.MaxInt64, Keep: 4}, impl.ErrForm},
		{right, impl.Update{From: 6, To: 6, Keep: -1}, impl.ErrForm},
		{right, impl.Update{From: 6, To: 6, Keep: 4, Tail: sample(401)}, impl.ErrForm},
		{right, impl.Update{From: 4, To: 6, Keep: 4}, impl.ErrState},
		{right, impl.Update{From: 6, To: 7, Keep: 4}, impl.ErrState},
		{right, impl.Update{From: 5, To: 6, Keep: 4}, impl.ErrRange},
		{right, impl.Update{From: 5, To: 6, Keep: 1, Tail: sample(400)}, impl.ErrRange},
	}
	for _, c := range cases {
		want := impl.ReceiverOut{Code: c.code}
		if c.code == impl.OK {
			want = holding(c.u.To, "abcd")
		}
		what := briefUpdate(c.u) + " heard by " + briefState(c.s)
		wantReceiver(t, what, impl.ReceiverHear(impl.Receiver{State: c.s}, c.u), want)
	}
}

func TestStatesAreNewMemory(t *testing.T) {
	for _, a := range stateTexts() {
		for _, b := range stateTexts() {
			from := impl.State{N: 1, Text: strings.Clone(a)}
			to := impl.State{N: 2, Text: strings.Clone(b)}
			u := impl.DeltaOf(from, to)
			wantNewMemory(t, "DeltaOf", []string{from.Text, to.Text}, []string{u.Tail})
			// The runtime has one place for all texts of one byte that it makes, so a Tail is handed in from elsewhere.
			u.Tail = strings.Clone(u.Tail)
			given := []string{from.Text, u.Tail}
			put := impl.DeltaOn(from, u).Receiver
			wantNewMemory(t, "DeltaOn", given, []string{put.State.Text})
			heard := impl.ReceiverHear(impl.Receiver{State: from}, u).Receiver
			wantNewMemory(t, "ReceiverHear", given, []string{heard.State.Text})
		}
	}
}

func FuzzStates(f *testing.F) {
	f.Add(int64(0), "ab", int64(1), "abc", int64(1), "x")
	f.Add(int64(1000000), "", int64(-1), sample(401), int64(300), sample(101))
	f.Add(int64(5), sample(300), int64(6), sample(400), int64(math.MaxInt64), "")
	f.Fuzz(func(t *testing.T, n int64, a string, m int64, b string, keep int64, tail string) {
		from, to := impl.State{N: n, Text: a}, impl.State{N: m, Text: b}
		u := impl.DeltaOf(from, to)
		wantUpdate(t, "DeltaOf", u, deltaByText(from, to))
		if stateByText(from) && stateByText(to) {
			wantReceiver(t, "DeltaOn of DeltaOf", impl.DeltaOn(from, u), holding(m, b))
		}
		wantPutOn(t, from, u)
		wantPutOn(t, from, impl.Update{From: n, To: m, Keep: keep, Tail: tail})
		wantPutOn(t, from, impl.Update{From: keep, To: m, Keep: n, Tail: tail})
	})
}
