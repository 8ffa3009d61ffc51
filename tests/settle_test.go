package tests

import (
	"fmt"
	"slices"
	"testing"

	"loop.example/g00455/impl"
)

// dice roll the same numbers each time, by their seed.
type dice struct {
	seed uint64
}

func (d *dice) below(most int) int {
	d.seed = d.seed*6364136223846793005 + 1442695040888963407
	return int(d.seed >> 33 % uint64(most))
}

// late is 1 for the newest of so many words; those that are long past come seldom.
func (d *dice) late(most int) int {
	return min(most, 1+d.below(1+d.below(20)))
}

// talk is a sender and a receiver with a line between them that keeps all that was ever said.
type talk struct {
	sender   impl.Sender
	receiver impl.Receiver
	had      []impl.State
	updates  []impl.Update
	numbers  []int64
}

// newTalk begins with a text that both have.
func newTalk(text string) talk {
	state := impl.State{Text: text}
	return talk{sender: impl.SenderNew(text), receiver: impl.Receiver{State: state}, had: []impl.State{state}}
}

// set is something new at the sender, if it has room for it.
func (k talk) set(t *testing.T, text string) talk {
	t.Helper()
	told := impl.SenderSet(k.sender, text)
	wantSender(t, "SenderSet", told, setByText(k.sender, text))
	if told.Code == impl.OK {
		k.sender = told.Sender
		k.had = append(slices.Clone(k.had), told.Sender.States[len(told.Sender.States)-1])
	}
	return k
}

// say puts the sender's word on the line.
func (k talk) say() talk {
	k.updates = append(slices.Clone(k.updates), impl.SenderSay(k.sender))
	return k
}

// tell puts the receiver's word on the line.
func (k talk) tell() talk {
	k.numbers = append(slices.Clone(k.numbers), k.receiver.State.N)
	return k
}

// hearUpdate lets the receiver hear a word that was said; then it has a state that the sender had, and none that is
// older than its own.
func (k talk) hearUpdate(t *testing.T, u impl.Update) talk {
	t.Helper()
	told := impl.ReceiverHear(k.receiver, u)
	wantReceiver(t, "ReceiverHear", told, heardByText(k.receiver, u))
	if told.Code != impl.OK {
		return k
	}
	if told.Receiver.State.N <= k.receiver.State.N {
		t.Errorf("%s: went back to %s", briefState(k.receiver.State), briefState(told.Receiver.State))
	}
	k.receiver = told.Receiver
	if !slices.Contains(k.had, k.receiver.State) {
		t.Errorf("%s: the sender never had it", briefState(k.receiver.State))
	}
	return k
}

// hearNumber lets the sender hear what the receiver told once; it keeps what the receiver has.
func (k talk) hearNumber(t *testing.T, n int64) talk {
	t.Helper()
	told := impl.SenderHear(k.sender, n)
	wantSender(t, "SenderHear", told, knownByText(k.sender, n))
	if told.Code == impl.OK {
		k.sender = told.Sender
	}
	if !impl.SenderRight(k.sender) || !slices.Contains(k.sender.States, k.receiver.State) {
		t.Errorf("%s: the receiver has %s", briefSender(k.sender), briefState(k.receiver.State))
	}
	return k
}

// wantSettled: one word each way, and both have the same.
func (k talk) wantSettled(t *testing.T) {
	t.Helper()
	k = k.hearNumber(t, k.receiver.State.N)
	k = k.hearUpdate(t, impl.SenderSay(k.sender))
	last := k.had[len(k.had)-1]
	if !impl.Settled(k.sender, k.receiver) || k.receiver.State != last {
		t.Errorf("%s and %s: not settled at %s", briefSender(k.sender), briefState(k.receiver.State), briefState(last))
	}
}

// step is one thing that may happen, by the number; nearly all that is said is said again, late, or never heard.
func (k talk) step(t *testing.T, what int, rolled *dice) talk {
	t.Helper()
	switch what {
	case 0:
		return k.set(t, textBySeed(rolled))
	case 1:
		return k.set(t, k.sender.States[rolled.below(len(k.sender.States))].Text)
	case 2:
		return k.say()
	case 3:
		return k.tell()
	case 4, 5, 6:
		if len(k.updates) > 0 {
			return k.hearUpdate(t, k.updates[len(k.updates)-rolled.late(len(k.updates))])
		}
	case 7, 8, 9:
		if len(k.numbers) > 0 {
			return k.hearNumber(t, k.numbers[len(k.numbers)-rolled.late(len(k.numbers))])
		}
	}
	return k
}

// textBySeed begins like others do, for none, some or all of its bytes.
func textBySeed(rolled *dice) string {
	all := sample(400)
	cut := rolled.below(401)
	switch rolled.below(4) {
	case 0:
		return all[:cut]
	case 1:
		return all[:cut] + string(make([]byte, rolled.below(401-cut)))
	case 2:
		return fmt.Sprint(rolled.below(1000), all[:cut/2])
	}
	return fmt.Sprint("ab", rolled.below(100))
}

// Promise 15: words lost, doubled, mixed and late.
func TestReceiverHasAStateTheSenderHad(t *testing.T) {
	for seed := range uint64(80) {
		rolled := &dice{seed}
		k := newTalk(textBySeed(rolled))
		for i := range 400 {
			k = k.step(t, rolled.below(10), rolled)
			if i%20 == 0 {
				k.wantSettled(t)
			}
			if t.Failed() {
				t.Fatalf("step %d of seed %d", i, seed)
			}
		}
		wantLateWordsHarmless(t, k)
	}
}

// wantLateWordsHarmless: all that was ever said comes once more, from either end of it, and in vain or not, both have
// the same at last.
func wantLateWordsHarmless(t *testing.T, k talk) {
	t.Helper()
	forth, back := k, k
	for i := range k.updates {
		forth = forth.hearUpdate(t, k.updates[i])
		back = back.hearUpdate(t, k.updates[len(k.updates)-1-i])
	}
	for i := range k.numbers {
		forth = forth.hearNumber(t, k.numbers[i])
		back = back.hearNumber(t, k.numbers[len(k.numbers)-1-i])
	}
	forth.wantSettled(t)
	back.wantSettled(t)
}

// Promise 15: all that can happen in seven steps, each of the words that were said being heard or not.
func TestReceiverOfAllShortTalks(t *testing.T) {
	wantAllTalks(t, newTalk("ab"), 7)
}

func wantAllTalks(t *testing.T, k talk, steps int) {
	t.Helper()
	k.wantSettled(t)
	if steps == 0 || t.Failed() {
		return
	}
	// Each text is one that was had before or begins like it.
	wantAllTalks(t, k.set(t, []string{"abc", "ax", "ab"}[len(k.had)%3]), steps-1)
	wantAllTalks(t, k.say(), steps-1)
	wantAllTalks(t, k.tell(), steps-1)
	for _, u := range k.updates {
		wantAllTalks(t, k.hearUpdate(t, u), steps-1)
	}
	for _, n := range k.numbers {
		wantAllTalks(t, k.hearNumber(t, n), steps-1)
	}
}

// Promise 15, where the receiver's word never came through for long: the sender is full, and says it all.
func TestFullSenderSettles(t *testing.T) {
	k := newTalk("start")
	for i := range 12 {
		k = k.set(t, fmt.Sprint("text ", i)).say()
	}
	if len(k.sender.States) != 8 || len(k.had) != 8 {
		t.Errorf("not full: %s", briefSender(k.sender))
	}
	k.wantSettled(t)
	for _, u := range k.updates {
		k.hearUpdate(t, u).wantSettled(t)
	}
	wantLateWordsHarmless(t, k)
}

// Promise 15, at the end of the numbers: nothing new is set there, and both have the same nevertheless.
func TestLastNumberSettles(t *testing.T) {
	first := impl.State{N: impl.MaxTime - 2, Text: "ab"}
	k := talk{sender: impl.Sender{States: []impl.State{first}}, receiver: impl.Receiver{State: first}, had: []impl.State{first}}
	for _, text := range []string{"abc", "abcd", "abcde", ""} {
		k = k.set(t, text).say()
		k.wantSettled(t)
	}
	last := k.had[len(k.had)-1]
	if last != (impl.State{N: impl.MaxTime, Text: "abcd"}) {
		t.Errorf("the last one: %s", briefState(last))
	}
	wantLateWordsHarmless(t, k)
}

func FuzzTalks(f *testing.F) {
	f.Add("\x00\x02\x04\x03\x06")
	f.Add("\x00\x02\x00\x02\x05\x04\x03\x01\x02\x07\x04")
	f.Fuzz(func(t *testing.T, steps string) {
		if len(steps) > 300 {
			return
		}
		k := newTalk("ab")
		for i, b := range []byte(steps) {
			k = k.step(t, int(b%10), &dice{uint64(b)<<8 + uint64(i)})
		}
		wantLateWordsHarmless(t, k)
	})
}
