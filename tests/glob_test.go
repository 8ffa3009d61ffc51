package tests

import (
	"regexp"
	"strings"
	"testing"

	"loop.example/g00455/impl"
)

// fitsByShape is what GlobFits tells by the document's words, as a shape of the library's.
func fitsByShape(glob string, text string) bool {
	if !onlyGlob.MatchString(byRunes(glob)) || len(text) > 60 {
		return false
	}
	shape := regexp.QuoteMeta(glob)
	shape = strings.ReplaceAll(shape, `\*`, `.*`)
	shape = strings.ReplaceAll(shape, `\?`, `.`)
	return regexp.MustCompile(`(?s)^` + shape + `$`).MatchString(byRunes(text))
}

// fitsByText is the same, byte by byte; of a right glob.
func fitsByText(glob string, text string) bool {
	switch {
	case glob == "":
		return text == ""
	case glob[0] == '*':
		return fitsByText(glob[1:], text) || text != "" && fitsByText(glob, text[1:])
	case text == "":
		return false
	}
	return (glob[0] == '?' || glob[0] == text[0]) && fitsByText(glob[1:], text[1:])
}

func wantFits(t *testing.T, glob string, text string, want bool) {
	t.Helper()
	if got := impl.GlobFits(glob, text); got != want {
		t.Errorf("GlobFits of %d bytes %.60q and %d bytes %.80q: got %t", len(glob), glob, len(text), text, got)
	}
}

func TestGlobFitsKnownTexts(t *testing.T) {
	cases := []struct {
		glob string
		fits []string
		not  []string
	}{
		{"a", []string{"a"}, []string{"", "b", "A", "aa", "ab", "ba", "*", "?"}},
		{"abc", []string{"abc"}, []string{"", "ab", "abd", "xbc", "axc", "abcc", "aabc", "ABC", "abc ", " abc"}},
		{"*", []string{"", "a", "*", "abc", "\x00", "\n", "\u00e9", "a\nb", " "}, nil},
		{"**", []string{"", "a", "abc"}, nil},
		{"?", []string{"a", "?", "*", " ", "\n", "\x00", "\xff"}, []string{"", "aa", "\u00e9"}},
		{"??", []string{"ab", "\u00e9", "  "}, []string{"", "a", "abc", "a\u00e9"}},
		{"a*", []string{"a", "ab", "aaa", "a*", "a\n"}, []string{"", "b", "ba", "A"}},
		{"*a", []string{"a", "ba", "aaa", "aba"}, []string{"", "b", "ab", "aab"}},
		{"*a*", []string{"a", "ba", "ab", "bab", "aa"}, []string{"", "b", "bbb"}},
		{"a*a", []string{"aa", "aba", "aaa", "abba"}, []string{"", "a", "ab", "ba", "abab"}},
		{"a**b", []string{"ab", "axb", "axxb", "a*b", "abab"}, []string{"a", "b", "aba", "ba"}},
		{"a?b", []string{"aab", "a?b", "a b"}, []string{"ab", "axxb", "axc", "a"}},
		{"?*", []string{"a", "ab", "abc"}, []string{""}},
		{"*?", []string{"a", "ab", "abc"}, []string{""}},
		{"?*?", []string{"ab", "abc"}, []string{"", "a"}},
		{"*??*", []string{"ab", "abc"}, []string{"", "a"}},
		{"a*b?c", []string{"axxbyc", "abbc", "abyc", "abcbxc"}, []string{"abc", "axbc", "axxbycd", "bxc"}},
		{"*ab*ab*", []string{"abab", "xabxabx", "aabab"}, []string{"ab", "aba", "abba", "abxba"}},
		{"*aab", []string{"aab", "aaab", "aaaaab", "aabaab"}, []string{"ab", "aaba", "aabb"}},
		{"a*ab", []string{"aab", "aaab", "abab"}, []string{"ab", "aabb", "abb"}},
		{"rm -rf*", []string{"rm -rf", "rm -rf /"}, []string{"rm -r", "rm  -rf", " rm -rf"}},
		{"*rm -rf*", []string{"rm -rf", "sudo rm -rf /", "xrm -rfx"}, []string{"rm -r f", "rm - rf"}},
		{"a b", []string{"a b"}, []string{"ab", "a  b", "a\tb"}},
		{"[a-z]", []string{"[a-z]"}, []string{"a", "m", "[a-z"}},
		{"{a,b}", []string{"{a,b}"}, []string{"a", "b"}},
		{"a|b", []string{"a|b"}, []string{"a", "b"}},
		{"\\*", []string{"\\", "\\*", "\\ab"}, []string{"*", "", "a\\"}},
		{"\\?", []string{"\\a", "\\?"}, []string{"?", "\\", "\\ab"}},
		{".", []string{"."}, []string{"a", ""}},
		{"a+", []string{"a+"}, []string{"a", "aa"}},
		{"^a$", []string{"^a$"}, []string{"a"}},
		{"*.go", []string{".go", "a.go", "a.go.go"}, []string{"go", "ago", "a.goo"}},
		{"/*", []string{"/", "/a/b"}, []string{"a/"}},
	}
	for _, c := range cases {
		for _, text := range c.fits {
			wantFits(t, c.glob, text, true)
		}
		for _, text := range c.not {
			wantFits(t, c.glob, text, false)
		}
	}
}

// wordsOver are all texts of those bytes, of at most that many.
func wordsOver(bytes string, most int) []string {
	out := []string{""}
	last := out
	for range most {
		var next []string
		for _, text := range last {
			for _, b := range bytes {
				next = append(next, text+string(b))
			}
		}
		out = append(out, next...)
		last = next
	}
	return out
}

func TestGlobFitsAllSmallTexts(t *testing.T) {
	texts := wordsOver("ab", 6)
	for _, glob := range wordsOver("ab*?", 5) {
		for _, text := range texts {
			wantFits(t, glob, text, glob != "" && fitsByText(glob, text))
		}
	}
	for _, glob := range wordsOver("a* ?", 4) {
		for _, text := range wordsOver("a* ", 4) {
			right := glob != "" && strings.Trim(glob, " ") == glob
			wantFits(t, glob, text, right && fitsByText(glob, text))
		}
	}
}

// A mark fits any byte there is, all else itself alone.
func TestGlobFitsEachByte(t *testing.T) {
	for b := range 256 {
		text := string([]byte{byte(b)})
		wantFits(t, "*", text, true)
		wantFits(t, "?", text, true)
		wantFits(t, "a?b", "a"+text+"b", true)
		wantFits(t, "a*b", "a"+text+"b", true)
		wantFits(t, "*", text+text+text, true)
		wantFits(t, "??", text+text, true)
		wantFits(t, "?", text+text, false)
		for c := 32; c <= 126; c++ {
			glob := string([]byte{byte(c)})
			wantFits(t, "x"+glob+"y", "x"+text+"y", b == c || c == '*' || c == '?')
			if c != ' ' {
				wantFits(t, glob, text, b == c || c == '*' || c == '?')
			}
		}
	}
}

// Promise 16: a star fits all, as long as it may be a text.
func TestGlobStarFitsAll(t *testing.T) {
	for size := range 61 {
		for _, text := range []string{sample(size), strings.Repeat("a", size), strings.Repeat("*", size), strings.Repeat("\n", size)} {
			for _, stars := range []int{1, 2, 29, 30} {
				wantFits(t, strings.Repeat("*", stars), text, true)
			}
		}
	}
}

func TestGlobFitsOfEachSize(t *testing.T) {
	for _, size := range []int{0, 1, 29, 30, 31, 59, 60, 61, 62, 400, impl.MaxBytes, impl.MaxBytes + 1} {
		text := strings.Repeat("a", size)
		wantFits(t, "*", text, size <= 60)
		wantFits(t, "*a", text, size >= 1 && size <= 60)
		wantFits(t, "a*", text, size >= 1 && size <= 60)
		wantFits(t, "*a*", text, size >= 1 && size <= 60)
		wantFits(t, text, text, size >= 1 && size <= 30)
		wantFits(t, strings.Repeat("?", size), text, size >= 1 && size <= 30)
		wantFits(t, strings.Repeat("*", size), "", size >= 1 && size <= 30)
		wantFits(t, strings.Repeat("*", size), "a", size >= 1 && size <= 30)
	}
	wantFits(t, strings.Repeat("?", 29)+"*", strings.Repeat("a", 60), true)
	wantFits(t, "*"+strings.Repeat("b", 29), strings.Repeat("a", 31)+strings.Repeat("b", 29), true)
	wantFits(t, "*"+strings.Repeat("b", 29), strings.Repeat("a", 32)+strings.Repeat("b", 29), false)
}

func TestGlobFitsTheEmptyText(t *testing.T) {
	for glob, want := range map[string]bool{"*": true, "**": true, "***": true, "?": false, "a": false, "*a": false, "a*": false, "*?": false, "?*": false, "*a*": false, "": false, " ": false} {
		wantFits(t, glob, "", want)
	}
}

// A glob that is no rule's fits nothing, not even itself.
func TestWrongGlobsFitNothing(t *testing.T) {
	for _, glob := range wrongGlobs() {
		for _, text := range []string{"", " ", "a", "*", glob, strings.Trim(glob, " "), strings.Repeat("a", 31), "abc"} {
			wantFits(t, glob, text, false)
		}
	}
	for b := range 256 {
		if b < 32 || b > 126 {
			text := string([]byte{byte(b)})
			wantFits(t, text, text, false)
			wantFits(t, "a"+text+"*", "a"+text, false)
			wantFits(t, "*"+text, "a"+text, false)
		}
	}
}

// globBySeed is a right one of at most that many bytes, most of them marks or of a few letters.
func globBySeed(rolled *dice, most int) string {
	glob := make([]byte, 1+rolled.below(most))
	for i := range glob {
		glob[i] = "**??aab. "[rolled.below(9)]
	}
	out := strings.Trim(string(glob), " ")
	if out == "" {
		return "*"
	}
	return out
}

// textThatFits is one of at most that many bytes more than the glob, made of it.
func textThatFits(rolled *dice, glob string, more int) string {
	var out []byte
	for i := range len(glob) {
		switch glob[i] {
		case '*':
			take := rolled.below(more + 1)
			more -= take
			for range take {
				out = append(out, "ab. \n\xff"[rolled.below(6)])
			}
		case '?':
			out = append(out, "ab. \n\xff"[rolled.below(6)])
		default:
			out = append(out, glob[i])
		}
	}
	return string(out)
}

// turnedOnce is the text with one byte more, less or another.
func turnedOnce(rolled *dice, text string) string {
	at := rolled.below(len(text) + 1)
	b := string("ab. \n\xff"[rolled.below(6)])
	switch {
	case at == len(text) || rolled.below(3) == 0:
		return text[:at] + b + text[at:]
	case rolled.below(2) == 0:
		return text[:at] + text[at+1:]
	}
	return text[:at] + b + text[at+1:]
}

// What is made of a glob fits it; of what misses by one byte the library tells.
func TestGlobFitsWhatIsMadeOfIt(t *testing.T) {
	rolled := &dice{seed: 8}
	missed := 0
	for range 20000 {
		glob := globBySeed(rolled, 30)
		text := textThatFits(rolled, glob, 60-len(glob))
		wantFits(t, glob, text, true)
		other := turnedOnce(rolled, text)
		want := fitsByShape(glob, other)
		wantFits(t, glob, other, want)
		if !want {
			missed++
		}
	}
	if missed < 2000 {
		t.Errorf("only %d texts missed", missed)
	}
}

// Promise 16: where two globs fit two texts, both together fit both together.
func TestGlobsTogetherFitTextsTogether(t *testing.T) {
	rolled := &dice{seed: 16}
	for range 20000 {
		a, b := globBySeed(rolled, 15), globBySeed(rolled, 15)
		textA, textB := textThatFits(rolled, a, 30-len(a)), textThatFits(rolled, b, 30-len(b))
		if impl.GlobFits(a, textA) && impl.GlobFits(b, textB) {
			wantFits(t, a+b, textA+textB, true)
		} else {
			t.Errorf("%q must fit %q, and %q must %q", a, textA, b, textB)
		}
	}
	small := wordsOver("ab*?", 3)[1:]
	texts := wordsOver("ab", 3)
	for i, a := range small {
		b := small[(i*37+11)%len(small)]
		for _, textA := range texts {
			for _, textB := range texts {
				if impl.GlobFits(a, textA) && impl.GlobFits(b, textB) {
					wantFits(t, a+b, textA+textB, true)
				}
			}
		}
	}
}

// Many stars that almost fit must not take longer than anyone can wait.
func TestGlobFitsOfManyStarsEnds(t *testing.T) {
	for range 1000 {
		wantFits(t, strings.Repeat("*a", 14)+"*b", strings.Repeat("a", 60), false)
		wantFits(t, strings.Repeat("*?", 15), strings.Repeat("a", 60), true)
		wantFits(t, strings.Repeat("*a", 15), strings.Repeat("a", 59)+"b", false)
	}
}

func FuzzGlobs(f *testing.F) {
	f.Add("a*b?c", "axxbyc", "*", "")
	f.Add("*rm -rf*", "sudo rm -rf /", "[x]", "x")
	f.Add("* ", "a", "??", "\u00e9")
	f.Fuzz(func(t *testing.T, a string, textA string, b string, textB string) {
		wantFits(t, a, textA, fitsByShape(a, textA))
		wantFits(t, a, textB, fitsByShape(a, textB))
		wantFits(t, a+b, textA+textB, fitsByShape(a+b, textA+textB))
		if impl.GlobFits(a, textA) && impl.GlobFits(b, textB) && len(a+b) <= 30 && len(textA+textB) <= 60 {
			wantFits(t, a+b, textA+textB, true)
		}
	})
}
