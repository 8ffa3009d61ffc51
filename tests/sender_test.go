package tests

import (
	"fmt"
	"math"
	"slices"
	"strings"
	"testing"

	"loop.example/g00455/impl"
)

// briefSender tells a sender without what is too long.
func briefSender(s impl.Sender) string {
	out := fmt.Sprintf("%d states", len(s.States))
	for _, state := range s.States[:min(len(s.States), 9)] {
		out += " " + briefState(state)
	}
	return out
}

func wantSender(t *testing.T, what string, got impl.SenderOut, want impl.SenderOut) {
	t.Helper()
	if got.Code != want.Code || !slices.Equal(got.Sender.States, want.Sender.States) {
		t.Errorf("%s: got %s Code %d, want %s Code %d",
			what, briefSender(got.Sender), got.Code, briefSender(want.Sender), want.Code)
	}
}

// senderOf has states of these numbers, whose texts are all others.
func senderOf(numbers ...int64) impl.Sender {
	var s impl.Sender
	for i, n := range numbers {
		s.States = append(s.States, impl.State{N: n, Text: fmt.Sprint("text ", i)})
	}
	return s
}

// senderByText: is it right by the document's words?
func senderByText(s impl.Sender) bool {
	if len(s.States) < 1 || len(s.States) > 8 {
		return false
	}
	for i, state := range s.States {
		if !stateByText(state) || i > 0 && s.States[i-1].N >= state.N {
			return false
		}
	}
	return true
}

// setByText is what SenderSet tells by the document's words.
func setByText(s impl.Sender, text string) impl.SenderOut {
	if len(text) > 8000 {
		return impl.SenderOut{Code: impl.ErrSize}
	}
	if !senderByText(s) || len(text) > 400 {
		return impl.SenderOut{Code: impl.ErrForm}
	}
	last := s.States[len(s.States)-1]
	if last.Text == text {
		return impl.SenderOut{Sender: s}
	}
	if last.N == 1000000 || len(s.States) == 8 {
		return impl.SenderOut{Code: impl.ErrFull}
	}
	next := impl.State{N: last.N + 1, Text: text}
	return impl.SenderOut{Sender: impl.Sender{States: append(slices.Clone(s.States), next)}}
}

// knownByText is what SenderHear tells by the document's words.
func knownByText(s impl.Sender, n int64) impl.SenderOut {
	if !senderByText(s) {
		return impl.SenderOut{Code: impl.ErrForm}
	}
	for i, state := range s.States {
		if state.N == n {
			return impl.SenderOut{Sender: impl.Sender{States: s.States[i:]}}
		}
	}
	return impl.SenderOut{Code: impl.ErrNone}
}

// rightSenders are of one to MaxStates states, also at the edges of N and of their texts.
func rightSenders() []impl.Sender {
	out := []impl.Sender{
		senderOf(0), senderOf(1), senderOf(999999), senderOf(1000000), senderOf(0, 1), senderOf(0, 1000000), senderOf(999999, 1000000),
		senderOf(3, 5, 9), senderOf(counts(0, 6)...), senderOf(counts(0, 7)...), senderOf(counts(999993, 1000000)...),
		senderOf(counts(999992, 999999)...), senderOf(0, 7, 8, 100, 101, 5000, 999999, 1000000), senderOf(counts(999994, 1000000)...),
	}
	for _, text := range stateTexts() {
		out = append(out, impl.Sender{States: []impl.State{{N: 4, Text: text}}})
		out = append(out, impl.Sender{States: []impl.State{{N: 4, Text: text}, {N: 5, Text: "ab"}, {N: 6, Text: text}}})
	}
	return out
}

// wrongSenders are not right by one thing each.
func wrongSenders() []impl.Sender {
	out := []impl.Sender{
		{}, {States: []impl.State{}}, senderOf(counts(0, 8)...), senderOf(counts(5, 20)...), senderOf(counts(0, impl.MaxList-1)...),
		senderOf(counts(0, impl.MaxList)...), senderOf(counts(0, impl.MaxBytes)...), senderOf(0, 0), senderOf(1, 0), senderOf(5, 5, 6),
		senderOf(5, 6, 6), senderOf(5, 7, 6), senderOf(5, 6, 5), senderOf(6, 5, 7), senderOf(1000000, 0), senderOf(1000000, 1000000),
		senderOf(0, 1, 2, 3, 4, 5, 6, 6), senderOf(0, 1, 2, 3, 4, 5, 6, 5), senderOf(1, 0, 2, 3, 4, 5, 6, 7),
		senderOf(counts(999994, 1000001)...), senderOf(counts(-1, 6)...), senderOf(math.MaxInt64, math.MinInt64), senderOf(math.MinInt64, 0, math.MaxInt64),
	}
	for _, n := range []int64{math.MinInt64, -1, impl.MaxTime + 1, math.MaxInt64} {
		out = append(out, senderOf(n), senderOf(0, n), senderOf(n, 5), senderOf(4, n, 5))
	}
	for _, size := range []int{401, impl.MaxBytes, impl.MaxBytes + 1} {
		for place := range 3 {
			s := senderOf(4, 5, 6)
			s.States[place].Text = sample(size)
			out = append(out, s)
		}
		out = append(out, impl.Sender{States: []impl.State{{Text: sample(size)}}})
	}
	return out
}

func TestSenderRight(t *testing.T) {
	for _, s := range rightSenders() {
		if !impl.SenderRight(s) {
			t.Errorf("SenderRight of %s: false", briefSender(s))
		}
	}
	for _, s := range wrongSenders() {
		if impl.SenderRight(s) {
			t.Errorf("SenderRight of %s: true", briefSender(s))
		}
	}
	for most := range 12 {
		if got := impl.SenderRight(senderOf(counts(1, int64(most))...)); got != (most >= 1 && most <= 8) {
			t.Errorf("SenderRight of %d states: %t", most, got)
		}
	}
	for _, state := range edgeStates() {
		if got := impl.SenderRight(impl.Sender{States: []impl.State{state}}); got != stateByText(state) {
			t.Errorf("SenderRight of %s: %t", briefState(state), got)
		}
	}
}

// All senders of three states of small numbers.
func TestSenderRightOfRisingNumbers(t *testing.T) {
	for a := int64(-1); a < 4; a++ {
		for b := int64(-1); b < 4; b++ {
			for c := int64(-1); c < 4; c++ {
				s := senderOf(a, b, c)
				if got := impl.SenderRight(s); got != (a >= 0 && b > a && c > b) {
					t.Errorf("SenderRight of %s: %t", briefSender(s), got)
				}
			}
		}
	}
}

// A sender that is not right is refused, whatever else is wrong, but for a text that is too long as such.
func TestWrongSendersAreRefused(t *testing.T) {
	for _, s := range wrongSenders() {
		what := briefSender(s)
		for _, text := range []string{"", "text 0", "ab", sample(400), sample(401), sample(impl.MaxBytes)} {
			wantSender(t, "SenderSet of "+what, impl.SenderSet(s, text), impl.SenderOut{Code: impl.ErrForm})
		}
		wantSender(t, "SenderSet of "+what, impl.SenderSet(s, sample(impl.MaxBytes+1)), impl.SenderOut{Code: impl.ErrSize})
		if len(s.States) > 0 {
			last := s.States[len(s.States)-1]
			wantSender(t, "SenderSet of "+what, impl.SenderSet(s, last.Text), setByText(s, last.Text))
			if impl.Settled(s, impl.Receiver{State: last}) {
				t.Errorf("Settled of %s: true", what)
			}
		}
		for _, n := range append(timeEdges(), 4, 5, 6, 77) {
			wantSender(t, fmt.Sprintf("SenderHear of %s and %d", what, n), impl.SenderHear(s, n), impl.SenderOut{Code: impl.ErrForm})
		}
		wantUpdate(t, "SenderSay of "+what, impl.SenderSay(s), impl.Update{})
		if impl.Settled(s, impl.Receiver{}) {
			t.Errorf("Settled of %s: true", what)
		}
	}
}

func TestSenderNew(t *testing.T) {
	for _, text := range stateTexts() {
		got := impl.SenderNew(text)
		want := impl.Sender{States: []impl.State{{Text: text}}}
		wantSender(t, "SenderNew", impl.SenderOut{Sender: got}, impl.SenderOut{Sender: want})
		if !impl.SenderRight(got) || !impl.Settled(got, impl.Receiver{State: impl.State{Text: text}}) {
			t.Errorf("SenderNew of %.20q: not right, or not settled", text)
		}
	}
	for _, size := range stateSizes() {
		want := impl.Sender{}
		if size <= 400 {
			want = impl.Sender{States: []impl.State{{Text: sample(size)}}}
		}
		wantSender(t, fmt.Sprint("SenderNew of ", size), impl.SenderOut{Sender: impl.SenderNew(sample(size))}, impl.SenderOut{Sender: want})
	}
}

func TestSenderSetOfKnownTexts(t *testing.T) {
	state := func(n int64, text string) impl.State { return impl.State{N: n, Text: text} }
	cases := []struct {
		states []impl.State
		text   string
		want   []impl.State
	}{
		{[]impl.State{state(0, "")}, "", []impl.State{state(0, "")}},
		{[]impl.State{state(0, "")}, "a", []impl.State{state(0, ""), state(1, "a")}},
		{[]impl.State{state(0, "a")}, "", []impl.State{state(0, "a"), state(1, "")}},
		{[]impl.State{state(0, "a")}, "a", []impl.State{state(0, "a")}},
		{[]impl.State{state(0, "a")}, "A", []impl.State{state(0, "a"), state(1, "A")}},
		{[]impl.State{state(0, "a")}, "ab", []impl.State{state(0, "a"), state(1, "ab")}},
		{[]impl.State{state(0, "a"), state(1, "b")}, "b", []impl.State{state(0, "a"), state(1, "b")}},
		// Only the last text counts, not one ahead of it.
		{[]impl.State{state(0, "a"), state(1, "b")}, "a", []impl.State{state(0, "a"), state(1, "b"), state(2, "a")}},
		{[]impl.State{state(3, "a"), state(9, "b")}, "c", []impl.State{state(3, "a"), state(9, "b"), state(10, "c")}},
		{[]impl.State{state(999998, "a")}, "c", []impl.State{state(999998, "a"), state(999999, "c")}},
		{[]impl.State{state(999999, "a")}, "c", []impl.State{state(999999, "a"), state(1000000, "c")}},
		{[]impl.State{state(1000000, "a")}, "a", []impl.State{state(1000000, "a")}},
	}
	for _, c := range cases {
		s := impl.Sender{States: c.states}
		what := fmt.Sprintf("SenderSet of %s and %q", briefSender(s), c.text)
		wantSender(t, what, impl.SenderSet(s, c.text), impl.SenderOut{Sender: impl.Sender{States: c.want}})
	}
}

func TestSenderSetFaultsInOrder(t *testing.T) {
	full := senderOf(counts(0, 7)...)
	late := senderOf(1000000)
	fullAndLate := senderOf(counts(999993, 1000000)...)
	for _, s := range []impl.Sender{full, late, fullAndLate} {
		last := s.States[len(s.States)-1].Text
		wantSender(t, "SenderSet of the last text", impl.SenderSet(s, last), impl.SenderOut{Sender: s})
		for _, text := range []string{"", "text", last + " ", "text 70", sample(400)} {
			wantSender(t, "SenderSet of "+briefSender(s), impl.SenderSet(s, text), impl.SenderOut{Code: impl.ErrFull})
		}
		for _, size := range []int{401, impl.MaxBytes} {
			wantSender(t, "SenderSet of too much", impl.SenderSet(s, sample(size)), impl.SenderOut{Code: impl.ErrForm})
		}
		wantSender(t, "SenderSet of far too much", impl.SenderSet(s, sample(impl.MaxBytes+1)), impl.SenderOut{Code: impl.ErrSize})
	}
	wantSender(t, "SenderSet of the first text", impl.SenderSet(full, "text 0"), impl.SenderOut{Code: impl.ErrFull})
	for _, s := range rightSenders() {
		for _, size := range stateSizes() {
			wantSender(t, fmt.Sprintf("SenderSet of %s and %d bytes", briefSender(s), size), impl.SenderSet(s, sample(size)), setByText(s, sample(size)))
		}
		for _, text := range stateTexts() {
			wantSender(t, fmt.Sprintf("SenderSet of %s and %.20q", briefSender(s), text), impl.SenderSet(s, text), setByText(s, text))
		}
	}
}

// What was heard of makes room again.
func TestFullSenderHasRoomAgain(t *testing.T) {
	full := senderOf(counts(0, 7)...)
	for n := range int64(8) {
		heard := impl.SenderHear(full, n).Sender
		set := impl.SenderSet(heard, "new")
		if n == 0 {
			wantSender(t, "full still", set, impl.SenderOut{Code: impl.ErrFull})
			continue
		}
		want := append(slices.Clone(full.States[n:]), impl.State{N: 8, Text: "new"})
		wantSender(t, "full no more", set, impl.SenderOut{Sender: impl.Sender{States: want}})
	}
}

func TestSenderHearOfEachNumber(t *testing.T) {
	for _, s := range rightSenders() {
		numbers := append(timeEdges(), 2, 4, 7, 8)
		for _, state := range s.States {
			numbers = append(numbers, state.N-1, state.N, state.N+1)
		}
		for _, n := range numbers {
			wantSender(t, fmt.Sprintf("SenderHear of %s and %d", briefSender(s), n), impl.SenderHear(s, n), knownByText(s, n))
		}
	}
	s := senderOf(3, 5, 9)
	wantSender(t, "the first one", impl.SenderHear(s, 3), impl.SenderOut{Sender: s})
	wantSender(t, "one between", impl.SenderHear(s, 5), impl.SenderOut{Sender: impl.Sender{States: s.States[1:]}})
	wantSender(t, "the last one", impl.SenderHear(s, 9), impl.SenderOut{Sender: impl.Sender{States: s.States[2:]}})
	for _, n := range []int64{math.MinInt64, -3, 0, 2, 4, 6, 8, 10, math.MaxInt64} {
		wantSender(t, fmt.Sprint("none of number ", n), impl.SenderHear(s, n), impl.SenderOut{Code: impl.ErrNone})
	}
}

func TestSenderSay(t *testing.T) {
	for _, s := range rightSenders() {
		first, last := s.States[0], s.States[len(s.States)-1]
		wantUpdate(t, "SenderSay of "+briefSender(s), impl.SenderSay(s), deltaByText(first, last))
	}
	s := impl.Sender{States: []impl.State{{N: 2, Text: "abc"}, {N: 3, Text: "x"}, {N: 7, Text: "abd"}}}
	wantUpdate(t, "of three", impl.SenderSay(s), impl.Update{From: 2, To: 7, Keep: 2, Tail: "d"})
	s.States = s.States[1:]
	wantUpdate(t, "of two", impl.SenderSay(s), impl.Update{From: 3, To: 7, Tail: "abd"})
	s.States = s.States[1:]
	wantUpdate(t, "of one", impl.SenderSay(s), impl.Update{From: 7, To: 7, Keep: 3})
}

func TestSettled(t *testing.T) {
	s := senderOf(3, 5, 9)
	last := s.States[2]
	cases := []struct {
		s     impl.Sender
		state impl.State
		want  bool
	}{
		{s, last, true},
		{s, s.States[0], false},
		{s, s.States[1], false},
		{s, impl.State{N: 9, Text: "text 1"}, false},
		{s, impl.State{N: 9, Text: "text 2 "}, false},
		{s, impl.State{N: 9, Text: "text "}, false},
		{s, impl.State{N: 9}, false},
		{s, impl.State{N: 8, Text: "text 2"}, false},
		{s, impl.State{N: 10, Text: "text 2"}, false},
		{s, impl.State{N: -9, Text: "text 2"}, false},
		{s, impl.State{N: math.MaxInt64, Text: "text 2"}, false},
		{s, impl.State{N: math.MinInt64, Text: "text 2"}, false},
		{s, impl.State{N: 9, Text: sample(impl.MaxBytes + 1)}, false},
		{impl.Sender{States: s.States[2:]}, last, true},
		{impl.Sender{}, impl.State{}, false},
		{impl.SenderNew(""), impl.State{}, true},
		{impl.SenderNew(sample(401)), impl.State{}, false},
		{senderOf(-1), impl.State{N: -1, Text: "text 0"}, false},
		{senderOf(1000001), impl.State{N: 1000001, Text: "text 0"}, false},
		{senderOf(5, 5), impl.State{N: 5, Text: "text 1"}, false},
		{senderOf(counts(0, 7)...), impl.State{N: 7, Text: "text 7"}, true},
		{senderOf(counts(0, 8)...), impl.State{N: 8, Text: "text 8"}, false},
	}
	for _, c := range cases {
		if got := impl.Settled(c.s, impl.Receiver{State: c.state}); got != c.want {
			t.Errorf("Settled of %s and %s: %t", briefSender(c.s), briefState(c.state), got)
		}
	}
}

// Promise 14: a sender set again and again, the same text too, that hears of its states.
func TestSenderStaysRight(t *testing.T) {
	for seed := range uint64(60) {
		s := impl.SenderNew("start")
		rolled := &dice{seed}
		for i := range 300 {
			told, want := stepped(s, rolled, i)
			wantSender(t, fmt.Sprintf("step %d of seed %d", i, seed), told, want)
			if told.Code != impl.OK {
				continue
			}
			s = told.Sender
			if !impl.SenderRight(s) {
				t.Fatalf("step %d of seed %d: %s is not right", i, seed, briefSender(s))
			}
		}
	}
}

// stepped is what the sender comes to by one step, and what it should.
func stepped(s impl.Sender, rolled *dice, step int) (impl.SenderOut, impl.SenderOut) {
	old := s.States[rolled.below(len(s.States))]
	switch rolled.below(10) {
	case 0:
		return impl.SenderHear(s, old.N), knownByText(s, old.N)
	case 1:
		n := s.States[0].N - 2 + int64(rolled.below(14))
		return impl.SenderHear(s, n), knownByText(s, n)
	case 2, 3:
		return impl.SenderSet(s, old.Text), setByText(s, old.Text)
	}
	text := fmt.Sprint("text ", step)
	return impl.SenderSet(s, text), setByText(s, text)
}

// Promise 14: of each right sender, each text that it takes and each of its states.
func TestSetIsLastAndHeardIsFirst(t *testing.T) {
	for _, s := range rightSenders() {
		for _, text := range stateTexts() {
			set := impl.SenderSet(s, text)
			if set.Code != impl.OK {
				continue
			}
			last := set.Sender.States[len(set.Sender.States)-1]
			if last.Text != text || !impl.SenderRight(set.Sender) || set.Sender.States[0] != s.States[0] {
				t.Errorf("SenderSet of %s and %.20q: got %s", briefSender(s), text, briefSender(set.Sender))
			}
		}
		for i, state := range s.States {
			heard := impl.SenderHear(s, state.N)
			if heard.Code != impl.OK || !impl.SenderRight(heard.Sender) || heard.Sender.States[0] != state || len(heard.Sender.States) != len(s.States)-i {
				t.Errorf("SenderHear of %s and %d: got %s", briefSender(s), state.N, briefSender(heard.Sender))
			}
		}
	}
}

// textsOfSender are all texts of a sender.
func textsOfSender(s impl.Sender) []string {
	var out []string
	for _, state := range s.States {
		out = append(out, state.Text)
	}
	return out
}

// The answer is put out of order, and what stands behind the list that was handed in is looked at, too.
func TestSenderLeavesItsArguments(t *testing.T) {
	for count := 1; count <= 8; count++ {
		behind := impl.State{N: 77, Text: "behind"}
		states := append(senderOf(counts(0, int64(count-1))...).States, behind, behind)
		kept := slices.Clone(states)
		s := impl.Sender{States: states[:count]}
		text := strings.Clone("new text")
		last := kept[count-1].Text
		told := []impl.Sender{impl.SenderSet(s, text).Sender, impl.SenderSet(s, last).Sender, impl.SenderNew(text)}
		for n := range count {
			told = append(told, impl.SenderHear(s, int64(n)).Sender)
		}
		update := impl.SenderSay(s)
		given := append(textsOfSender(s), text, last)
		wantNewMemory(t, "SenderSay", given, []string{update.Tail})
		for _, answer := range told {
			wantNewMemory(t, "the sender told", given, textsOfSender(answer))
			for i := range answer.States {
				answer.States[i] = impl.State{N: -1, Text: "turned"}
			}
		}
		if !slices.Equal(states, kept) {
			t.Errorf("of %d states: now %s", count, briefSender(impl.Sender{States: states}))
		}
	}
}

func FuzzSenders(f *testing.F) {
	f.Add("ab", "abc", int64(0), int64(1), int64(1))
	f.Add("", sample(400), int64(999999), int64(1000000), int64(-1))
	f.Add("x", "x", int64(math.MaxInt64), int64(math.MinInt64), int64(5))
	f.Fuzz(func(t *testing.T, a string, b string, first int64, second int64, n int64) {
		one := impl.Sender{States: []impl.State{{N: first, Text: a}}}
		two := impl.Sender{States: []impl.State{{N: first, Text: a}, {N: second, Text: b}}}
		for _, s := range []impl.Sender{one, two, impl.SenderNew(a)} {
			if got := impl.SenderRight(s); got != senderByText(s) {
				t.Errorf("SenderRight of %s: %t", briefSender(s), got)
			}
			wantSender(t, "SenderSet", impl.SenderSet(s, b), setByText(s, b))
			wantSender(t, "SenderHear", impl.SenderHear(s, n), knownByText(s, n))
			wantSender(t, "SenderHear of the first", impl.SenderHear(s, first), knownByText(s, first))
			if senderByText(s) {
				wantUpdate(t, "SenderSay", impl.SenderSay(s), deltaByText(s.States[0], s.States[len(s.States)-1]))
			}
		}
	})
}
