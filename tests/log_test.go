package tests

import (
	"fmt"
	"slices"
	"strings"
	"testing"

	"loop.example/g00455/impl"
)

// keySizes are the edges of a key's size, of which 1 and 64 may be.
func keySizes() []int {
	return []int{0, 1, 64, 65, impl.MaxBytes, impl.MaxBytes + 1}
}

func keyMayBe(size int) bool {
	return size >= 1 && size <= 64
}

// chainsByLibrary are the chains of no record, of the first one, and so on, by the library's macs.
func chainsByLibrary(key string, records []string) []string {
	out := []string{macByLibrary(key, "log")}
	for i, record := range records {
		out = append(out, macByLibrary(key, out[i]+record))
	}
	return out
}

// logByLibrary is the text of a log by the library's macs, also where its records are too long or too many.
func logByLibrary(key string, records []string) string {
	chains := chainsByLibrary(key, records)
	out := ""
	for i, record := range records {
		out += impl.PutNum(int64(len(record))) + record + chains[i+1][:8]
	}
	return out
}

// sampleLog is so many records of sizes up to most, no two of them alike.
func sampleLog(count int, most int) []string {
	var out []string
	for i := range count {
		record := fmt.Sprintf("%d %s", i, sample(most))
		out = append(out, record[:most-i%(most/2)])
	}
	return out
}

// repeated is so many records that are all this one.
func repeated(count int, record string) []string {
	return slices.Repeat([]string{record}, count)
}

// ordinaryLogs are right ones whose texts fit in.
func ordinaryLogs() [][]string {
	return [][]string{
		nil, {""}, {"a"}, {"a", "b", "c"}, {"", "", ""}, {"a", "a"}, {"F ann ls", "D bob rm", "", "T"},
		{sample(200)}, {sample(63), sample(64), sample(65)}, {"\x00\xff\x80", strings.Repeat("\x80", 20)},
		sampleLog(10, 200), sampleLog(59, 100), sampleLog(60, 100), repeated(60, ""), repeated(60, "x"),
		{"log"}, {impl.LogText("key", []string{"a log", "in a log"}), "b"},
	}
}

// fullLog is a log whose text has MaxBytes bytes and so many more.
func fullLog(more int) []string {
	return append(repeated(38, sample(200)), sample(11+more))
}

func wantRead(t *testing.T, what string, key string, text string, want impl.LogOut) {
	t.Helper()
	got := impl.LogRead(key, text)
	if !slices.Equal(got.Records, want.Records) || got.At != want.At || got.Code != want.Code {
		t.Errorf("LogRead of %s, a key of %d bytes, a text of %d bytes: got %d records %.60q At %d Code %d, want %d records %.60q At %d Code %d",
			what, len(key), len(text), len(got.Records), got.Records, got.At, got.Code,
			len(want.Records), want.Records, want.At, want.Code)
	}
}

func TestChainsOfKnownTexts(t *testing.T) {
	start := impl.ChainStart("k")
	wantHex(t, "start", start, "e03061bb2f8db4662172592274d0f12ced620a207d27fcffd2b8a4d4576eca0e")
	wantHex(t, "next", impl.ChainNext("k", start, "a"), "ad2af99283a08197c32c84130a23d4c1b17d04dcae7e48cd4695ce43071c4ee3")
	wantHex(t, "log of a", impl.LogText("k", []string{"a"}), "0261"+"ad2af99283a08197")
	records := []string{"F ann ls -l", "", "T"}
	wantHex(t, "log of three", impl.LogText(sample(64), records), "164620616e6e206c73202d6c"+"edee4fb791a88e7c"+
		"00"+"38846cb358742c4c"+"0254"+"7a2597673ad98c99")
	wantHex(t, "anchor of three", impl.AnchorOf(sample(64), records, 3).Chain,
		"7a2597673ad98c997fea54da4a7faf0adf9c6a8d3ab8e43f4c3124f252323af8")
}

func TestChainStartAtTheEdges(t *testing.T) {
	for _, size := range keySizes() {
		want := ""
		if keyMayBe(size) {
			want = macByLibrary(sample(size), "log")
		}
		if got := impl.ChainStart(sample(size)); got != want {
			t.Errorf("ChainStart of a key of %d bytes: got %x, want %x", size, got, want)
		}
	}
}

func TestChainNextAtTheEdges(t *testing.T) {
	for _, keySize := range keySizes() {
		for _, chainSize := range []int{0, 31, 32, 33, impl.MaxBytes, impl.MaxBytes + 1} {
			for _, recordSize := range []int{0, 1, 199, 200, 201, impl.MaxBytes, impl.MaxBytes + 1} {
				key, chain, record := sample(keySize), sample(chainSize), sample(recordSize)
				want := ""
				if keyMayBe(keySize) && chainSize == 32 && recordSize <= 200 {
					want = macByLibrary(key, chain+record)
				}
				if got := impl.ChainNext(key, chain, record); got != want {
					t.Errorf("ChainNext of %d, %d and %d bytes: got %x, want %x", keySize, chainSize, recordSize, got, want)
				}
			}
		}
	}
}

func TestLogTextIsThatOfTheLibrary(t *testing.T) {
	for _, keySize := range []int{1, 2, 32, 64} {
		key := sample(keySize)
		for i, records := range append(ordinaryLogs(), fullLog(0)) {
			if got := impl.LogText(key, records); got != logByLibrary(key, records) {
				t.Errorf("log %d, of %d records: got %d bytes %.60q", i, len(records), len(got), got)
			}
		}
	}
}

// wrongLogs are no logs, by the first, a middle or the last record, or by how many there are.
func wrongLogs() [][]string {
	long := sample(201)
	return [][]string{
		{long}, {long, "b"}, {"a", long}, {"a", long, "b"}, {"a", "b", sample(impl.MaxBytes + 1)},
		append(repeated(59, ""), long), append(repeated(60, ""), long),
		repeated(61, ""), repeated(61, "x"), repeated(impl.MaxList, ""), repeated(impl.MaxList+1, ""),
	}
}

func TestLogTextOfWrongOnesIsEmpty(t *testing.T) {
	for i, records := range wrongLogs() {
		for _, keySize := range keySizes() {
			if got := impl.LogText(sample(keySize), records); got != "" {
				t.Errorf("wrong log %d, a key of %d bytes: %d bytes", i, keySize, len(got))
			}
		}
	}
	for _, keySize := range keySizes() {
		if got := impl.LogText(sample(keySize), []string{"a"}); (got != "") != keyMayBe(keySize) {
			t.Errorf("a key of %d bytes: %d bytes", keySize, len(got))
		}
	}
}

func TestLogTextAtTheLimit(t *testing.T) {
	full := impl.LogText("key", fullLog(0))
	if len(full) != impl.MaxBytes {
		t.Fatalf("the log that should fill a text has %d bytes", len(full))
	}
	wantRead(t, "a full text", "key", full, impl.LogOut{Records: fullLog(0), At: impl.MaxBytes})
	for _, records := range [][]string{fullLog(1), fullLog(189), append(fullLog(0), ""), repeated(60, sample(200))} {
		if got := impl.LogText("key", records); got != "" {
			t.Errorf("LogText of %d records that don't fit in: %d bytes", len(records), len(got))
		}
	}
	over := logByLibrary("key", fullLog(1))
	wantRead(t, "one byte more", "key", over, impl.LogOut{Code: impl.ErrSize})
	// Without its last byte it may be handed in again, but the last record is no longer whole.
	at := int64(38 * 210)
	wantRead(t, "its beginning", "key", over[:impl.MaxBytes], impl.LogOut{Records: fullLog(0)[:38], At: at})
}

// Promise 8, of the whole text.
func TestRecordsComeBackFromTheirLog(t *testing.T) {
	for _, keySize := range []int{1, 2, 32, 64} {
		key := sample(keySize)
		for i, records := range append(ordinaryLogs(), fullLog(0)) {
			text := impl.LogText(key, records)
			wantRead(t, fmt.Sprint("log ", i), key, text, impl.LogOut{Records: records, At: int64(len(text))})
		}
	}
}

// endsOf are the places in the log's text that are behind no record, behind the first one, and so on.
func endsOf(records []string) []int {
	out := []int{0}
	for i, record := range records {
		out = append(out, out[i]+len(impl.PutText(record))+8)
	}
	return out
}

// Promise 8, of each beginning of the text.
func TestFirstRecordsComeBackFromABeginning(t *testing.T) {
	for i, records := range [][]string{{"a", "b", "c"}, {""}, {"", "", ""}, {sample(200), "b", sample(64)}, sampleLog(60, 20)} {
		text := impl.LogText("key", records)
		ends := endsOf(records)
		whole := 0
		for size := range len(text) + 1 {
			if whole < len(records) && ends[whole+1] <= size {
				whole++
			}
			wantRead(t, fmt.Sprintf("log %d, its first %d bytes", i, size), "key", text[:size],
				impl.LogOut{Records: records[:whole], At: int64(ends[whole])})
		}
	}
}

// A chain tells of all that is ahead of it, so from the turned byte on nothing comes back.
func TestTurnedByteEndsTheRecords(t *testing.T) {
	for i, records := range [][]string{{"a", "b", "c"}, {"", ""}, {sample(70), sample(3), "", "x"}, {"x", sample(200), "y"}} {
		text := impl.LogText("key", records)
		ends := endsOf(records)
		for at := range len(text) {
			whole := 0
			for ends[whole+1] <= at {
				whole++
			}
			for _, turn := range []byte{1, 2, 64, 128, 255} {
				turned := []byte(text)
				turned[at] ^= turn
				wantRead(t, fmt.Sprintf("log %d, byte %d turned by %d", i, at, turn), "key", string(turned),
					impl.LogOut{Records: records[:whole], At: int64(ends[whole])})
			}
		}
	}
}

func TestBytesBehindTheLastRecordAreLeft(t *testing.T) {
	records := []string{"a", "", sample(100)}
	text := impl.LogText("key", records)
	want := impl.LogOut{Records: records, At: int64(len(text))}
	for i, tail := range []string{
		"\x00", "\x80", "x", "\x00" + strings.Repeat("\x00", 8), sample(500), text, impl.LogText("key", []string{"d"}),
		"\x80\x00" + strings.Repeat("\x00", 8), "\x01", impl.PutNum(-5) + "abcdefgh", impl.PutNum(impl.MaxBytes + 1),
		strings.Repeat("\xff", 11), strings.Repeat("\x00", impl.MaxBytes-len(text)),
	} {
		wantRead(t, fmt.Sprint("the tail ", i), "key", text+tail, want)
	}
	wantRead(t, "too long a tail", "key", text+strings.Repeat("\x00", impl.MaxBytes-len(text)+1), impl.LogOut{Code: impl.ErrSize})
	more := append(slices.Clone(records), "d")
	chain := chainsByLibrary("key", more)[4]
	wantRead(t, "a record behind it", "key", text+"\x02d"+chain[:8],
		impl.LogOut{Records: more, At: int64(len(text) + 10)})
	wantRead(t, "a record behind it, its size in two bytes", "key", text+"\x82\x00d"+chain[:8], want)
	wantRead(t, "another beginning", "key", "\x00"+text, impl.LogOut{})
	wantRead(t, "without its first byte", "key", text[1:], impl.LogOut{})
}

func TestLongRecordInTheTextEndsTheRecords(t *testing.T) {
	for _, size := range []int{201, 202, 1000, 7000} {
		for ahead := range 3 {
			records := append(repeated(ahead, "ab"), sample(size), "c")
			wantRead(t, fmt.Sprintf("%d bytes behind %d records", size, ahead), "key", logByLibrary("key", records),
				impl.LogOut{Records: repeated(ahead, "ab"), At: int64(ahead * 11)})
		}
	}
	records := []string{sample(200), "c", sample(200)}
	wantRead(t, "200 bytes", "key", logByLibrary("key", records), impl.LogOut{Records: records, At: 210 + 10 + 210})
}

func TestNoMoreThanSixtyRecordsAreRead(t *testing.T) {
	for _, count := range []int{59, 60, 61, 62, 100, impl.MaxList} {
		whole := min(count, 60)
		wantRead(t, fmt.Sprint(count, " records"), "key", logByLibrary("key", repeated(count, "ab")),
			impl.LogOut{Records: repeated(whole, "ab"), At: int64(whole * 11)})
	}
}

func TestLogOfAnotherKeyTellsNone(t *testing.T) {
	for _, records := range ordinaryLogs() {
		text := impl.LogText("key", records)
		for _, key := range []string{"k", "kez", "Key", "keyy", sample(64)} {
			wantRead(t, "another key", key, text, impl.LogOut{})
		}
	}
}

// Two records changed round, one left out, and one put in are all seen from there on.
func TestMovedRecordsEndTheRecords(t *testing.T) {
	records := []string{"aa", "bb", "cc", "dd"}
	text := impl.LogText("key", records)
	piece := func(i int) string { return text[i*11 : i*11+11] }
	for _, c := range []struct {
		order string
		whole int
	}{
		{"0123", 4}, {"1023", 0}, {"0213", 1}, {"0132", 2}, {"023", 1}, {"123", 0}, {"013", 2}, {"00123", 1}, {"0112", 2}, {"01233", 4},
	} {
		moved := ""
		for _, digit := range c.order {
			moved += piece(int(digit - '0'))
		}
		wantRead(t, "the order "+c.order, "key", moved, impl.LogOut{Records: records[:c.whole], At: int64(c.whole * 11)})
	}
}

func TestLogReadFaultsInOrder(t *testing.T) {
	for _, keySize := range keySizes() {
		key := sample(keySize)
		for _, text := range []string{"", "\x00", logByLibrary(key, []string{"a"}), sample(impl.MaxBytes), sample(impl.MaxBytes + 1)} {
			want := impl.LogOut{}
			switch {
			case keySize > impl.MaxBytes || len(text) > impl.MaxBytes:
				want.Code = impl.ErrSize
			case !keyMayBe(keySize):
				want.Code = impl.ErrForm
			case len(text) == 10:
				want.Records, want.At = []string{"a"}, 10
			}
			wantRead(t, "the faults", key, text, want)
		}
	}
}

func TestLogLeavesItsArguments(t *testing.T) {
	// Behind the list stands room that is not the program's to write to.
	room := append(sampleLog(20, 100), "behind", "behind it")
	records := room[:20]
	was := slices.Clone(room)
	text := impl.LogText("key", records)
	impl.AnchorOf("key", records, 7)
	impl.Clash("key", 7, records, room[:9])
	if !slices.Equal(room, was) {
		t.Errorf("the records are changed: %.80q", room)
	}
	first, second := impl.LogRead("key", text), impl.LogRead("key", text)
	for i := range first.Records {
		first.Records[i] = "turned"
	}
	if !slices.Equal(second.Records, records) || !slices.Equal(impl.LogRead("key", text).Records, records) {
		t.Errorf("two answers share their records")
	}
}

func FuzzLogs(f *testing.F) {
	f.Add("key", "a", "", "b", uint16(12))
	f.Add("", "a", sample(200), sample(201), uint16(0))
	f.Add(sample(64), "", "", "", uint16(27))
	f.Add("k", logByLibrary("k", []string{"a", "b"}), "", sample(63), uint16(9))
	f.Fuzz(func(t *testing.T, key string, a string, b string, c string, size uint16) {
		records := []string{a, b, c}
		right := keyMayBe(len(key)) && max(len(a), len(b), len(c)) <= 200
		text := impl.LogText(key, records)
		if !right {
			if text != "" {
				t.Errorf("LogText(%q, %q): got %q", key, records, text)
			}
			got := impl.LogRead(key, a)
			again := impl.LogText(key, got.Records)
			if got.Code == impl.OK && a[:got.At] != again {
				t.Errorf("LogRead(%q, %q): got %+v, whose text is another", key, a, got)
			}
			return
		}
		wantRead(t, "a right log", key, text, impl.LogOut{Records: records, At: int64(len(text))})
		got := impl.LogRead(key, text[:min(int(size), len(text))])
		if !slices.Equal(got.Records, records[:len(got.Records)]) || int(got.At) != endsOf(records)[len(got.Records)] {
			t.Errorf("LogRead(%q) of the first %d bytes: got %+v", key, size, got)
		}
	})
}
