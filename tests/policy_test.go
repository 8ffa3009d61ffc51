package tests

import (
	"fmt"
	"math"
	"regexp"
	"slices"
	"strings"
	"testing"
	"unsafe"

	"loop.example/g00455/impl"
)

// userShape, globShape and lineShape are the document's words for what a user, a glob and a rule's line may be; of a
// text whose bytes are its runes.
var (
	userShape = `(?:\*|[a-z][a-z0-9_]{0,19})`
	globShape = `(?:[!-~]|[!-~][ -~]{0,28}[!-~])`
	lineShape = regexp.MustCompile(`^(deny|allow|hold [123]) (` + userShape + `) (` + globShape + `)$`)
	onlyUser  = regexp.MustCompile(`^` + userShape + `$`)
	onlyGlob  = regexp.MustCompile(`^` + globShape + `$`)
)

// byRunes is the text with a rune for each of its bytes, so that a shape sees bytes.
func byRunes(text string) string {
	var out strings.Builder
	for i := range len(text) {
		out.WriteRune(rune(text[i]))
	}
	return out.String()
}

func rule(kind int64, need int64, user string, glob string) impl.Rule {
	return impl.Rule{Kind: kind, Need: need, User: user, Glob: glob}
}

func briefRules(l []impl.Rule) string {
	return fmt.Sprintf("%d rules %.300q", len(l), fmt.Sprint(l[:min(len(l), 4)]))
}

// says are the words with which the line of such a rule begins, if there is such a Kind of such a Need.
func says(kind int64, need int64) (string, bool) {
	switch {
	case kind == 0 && need == 0:
		return "deny", true
	case kind == 1 && need == 0:
		return "allow", true
	case kind == 2 && need >= 1 && need <= 3:
		return fmt.Sprintf("hold %d", need), true
	}
	return "", false
}

// ruleByText: is it right by the document's words?
func ruleByText(r impl.Rule) bool {
	_, known := says(r.Kind, r.Need)
	return known && onlyUser.MatchString(byRunes(r.User)) && onlyGlob.MatchString(byRunes(r.Glob))
}

func policyByText(l []impl.Rule) bool {
	wrong := func(r impl.Rule) bool { return !ruleByText(r) }
	return len(l) <= 12 && !slices.ContainsFunc(l, wrong)
}

// textByText is what PolicyText tells by the document's words.
func textByText(l []impl.Rule) string {
	if !policyByText(l) {
		return ""
	}
	var out strings.Builder
	for _, r := range l {
		words, _ := says(r.Kind, r.Need)
		fmt.Fprintf(&out, "%s %s %s\n", words, r.User, r.Glob)
	}
	return out.String()
}

// readByText is what PolicyRead tells by the document's words.
func readByText(text string) impl.PolicyOut {
	if len(text) > 8000 {
		return impl.PolicyOut{Code: impl.ErrSize}
	}
	lines := strings.Split(text, "\n")
	var out impl.PolicyOut
	for i, line := range lines[:len(lines)-1] {
		found := lineShape.FindStringSubmatch(byRunes(line))
		if found == nil || i == 12 {
			return impl.PolicyOut{Line: int64(i), Code: impl.ErrSyntax}
		}
		kind := slices.Index([]string{"d", "a", "h"}, found[1][:1])
		need := strings.Index(" 123", found[1][len(found[1])-1:])
		out.Rules = append(out.Rules, rule(int64(kind), int64(max(need, 0)), found[2], found[3]))
	}
	if lines[len(lines)-1] != "" {
		return impl.PolicyOut{Line: int64(len(lines) - 1), Code: impl.ErrSyntax}
	}
	return out
}

func wantRule(t *testing.T, r impl.Rule, want bool) {
	t.Helper()
	if got := impl.RuleRight(r); got != want {
		t.Errorf("RuleRight of %.200q: got %t", fmt.Sprint(r), got)
	}
}

// wantPolicy takes an empty list and none for the same.
func wantPolicy(t *testing.T, what string, got impl.PolicyOut, want impl.PolicyOut) {
	t.Helper()
	if got.Code != want.Code || got.Line != want.Line || !slices.Equal(got.Rules, want.Rules) {
		t.Errorf("%s: got %s Line %d Code %d, want %s Line %d Code %d",
			what, briefRules(got.Rules), got.Line, got.Code, briefRules(want.Rules), want.Line, want.Code)
	}
}

func wantPolicyRead(t *testing.T, text string) {
	t.Helper()
	wantPolicy(t, fmt.Sprintf("PolicyRead of %d bytes %.200q", len(text), text), impl.PolicyRead(text), readByText(text))
}

// faultAt is what PolicyRead tells of a text whose first fault is at that line.
func faultAt(line int64) impl.PolicyOut {
	return impl.PolicyOut{Line: line, Code: impl.ErrSyntax}
}

// kindEdges and needEdges are numbers for Kind and Need; not all may be.
func kindEdges() []int64 {
	return []int64{math.MinInt64, -1, 0, 1, 2, 3, 4, 256, 257, 258, 1 << 32, 1<<32 + 1, math.MaxInt64}
}

func needEdges() []int64 {
	return []int64{math.MinInt64, -3, -1, 0, 1, 2, 3, 4, 5, 10, 257, 1<<32 + 1, math.MaxInt64}
}

// rightUsers may stand in a rule.
func rightUsers() []string {
	return []string{"*", "a", "z", "ann", "bob", "a0", "z9", "a_", "deny", "hold", "root_2", strings.Repeat("a", 19), strings.Repeat("z", 20)}
}

func wrongUsers() []string {
	return []string{
		"", " ", "**", "*a", "a*", "?", "1", "9a", "_", "_a", "A", "Ann", "anN", "an n", " ann", "ann ", "ann\n", "\nann", "ann\x00",
		"an-n", "an.n", "\u00e4nn", "ann\xff", "* ", " *", strings.Repeat("a", 21), strings.Repeat("*", 20), sample(impl.MaxBytes + 1),
	}
}

// rightGlobs may stand in a rule.
func rightGlobs() []string {
	return []string{
		"*", "?", "a", "!", "~", "**", "a b", "a  b", "* *", "rm*", "*rm", "*r*m*", "r?m", "??", "[a-z]", "\\*", "^.$", "deny * x", "1",
		strings.Repeat("a", 29), strings.Repeat("~", 30), strings.Repeat("*", 30), "a" + strings.Repeat(" ", 28) + "b",
	}
}

func wrongGlobs() []string {
	return []string{
		"", " ", "  ", " a", "a ", " a ", " *", "* ", "a\n", "\na", "a\nb", "\x00", "a\x1fb", "\x7f", "a\x7f", "\x7fa", "\t", "a\tb",
		"\u00e9", "a\xff", "\x80", strings.Repeat("a", 31), strings.Repeat("*", 31), " " + strings.Repeat("a", 29),
		strings.Repeat("a", 29) + " ", strings.Repeat("a", 30) + " ", sample(impl.MaxBytes + 1),
	}
}

// rightRules are of all kinds, with each right user and each right glob.
func rightRules() []impl.Rule {
	verdicts := []impl.Verdict{{Kind: 0}, {Kind: 1}, {Kind: 2, Need: 1}, {Kind: 2, Need: 2}, {Kind: 2, Need: 3}}
	var out []impl.Rule
	for i, user := range rightUsers() {
		for j, glob := range rightGlobs() {
			v := verdicts[(i+j)%len(verdicts)]
			out = append(out, rule(v.Kind, v.Need, user, glob))
		}
	}
	return out
}

func wrongRules() []impl.Rule {
	out := []impl.Rule{
		{}, rule(-1, 0, "*", "*"), rule(3, 0, "*", "*"), rule(0, 1, "*", "*"), rule(0, -1, "*", "*"), rule(1, 1, "*", "*"),
		rule(1, 3, "*", "*"), rule(2, 0, "*", "*"), rule(2, -1, "*", "*"), rule(2, 4, "*", "*"),
		rule(math.MinInt64, 0, "*", "*"), rule(math.MaxInt64, 0, "*", "*"), rule(2, math.MinInt64, "*", "*"), rule(2, math.MaxInt64, "*", "*"),
	}
	for _, user := range wrongUsers() {
		out = append(out, rule(1, 0, user, "*"))
	}
	for _, glob := range wrongGlobs() {
		out = append(out, rule(1, 0, "*", glob))
	}
	return out
}

// rulesOf are so many right rules, no two of one policy alike, by the seed.
func rulesOf(count int, seed int) []impl.Rule {
	all := rightRules()
	var out []impl.Rule
	for i := range count {
		out = append(out, all[(seed*31+i*7)%len(all)])
	}
	return out
}

func TestPolicyLimits(t *testing.T) {
	if impl.PoDeny != 0 || impl.PoAllow != 1 || impl.PoHold != 2 || impl.MaxRules != 12 {
		t.Errorf("constants: %d %d %d %d", impl.PoDeny, impl.PoAllow, impl.PoHold, impl.MaxRules)
	}
}

func TestRuleRightOfEachKindAndNeed(t *testing.T) {
	right := map[[2]int64]bool{{0, 0}: true, {1, 0}: true, {2, 1}: true, {2, 2}: true, {2, 3}: true}
	for _, kind := range kindEdges() {
		for _, need := range needEdges() {
			wantRule(t, rule(kind, need, "ann", "ls*"), right[[2]int64{kind, need}])
			wantRule(t, rule(kind, need, "*", "*"), right[[2]int64{kind, need}])
			wantRule(t, rule(kind, need, "", "*"), false)
			wantRule(t, rule(kind, need, "*", ""), false)
		}
	}
}

func TestRuleRightOfUsersAndGlobs(t *testing.T) {
	for _, user := range append(rightUsers(), wrongUsers()...) {
		for _, glob := range append(rightGlobs(), wrongGlobs()...) {
			want := slices.Contains(rightUsers(), user) && slices.Contains(rightGlobs(), glob)
			for _, v := range []impl.Verdict{{Kind: 0}, {Kind: 1}, {Kind: 2, Need: 3}} {
				wantRule(t, rule(v.Kind, v.Need, user, glob), want)
			}
			if ruleByText(rule(1, 0, user, glob)) != want {
				t.Errorf("the test's own words tell something else of %.60q and %.60q", user, glob)
			}
		}
	}
}

func TestRuleRightOfEachByte(t *testing.T) {
	for b := range 256 {
		text := string([]byte{byte(b)})
		printed, graph := b >= 32 && b <= 126, b >= 33 && b <= 126
		small, inner := b >= 'a' && b <= 'z', b >= 'a' && b <= 'z' || b >= '0' && b <= '9' || b == '_'
		wantRule(t, rule(0, 0, "*", text), graph)
		wantRule(t, rule(0, 0, "*", text+"a"), graph)
		wantRule(t, rule(0, 0, "*", "a"+text), graph)
		wantRule(t, rule(0, 0, "*", "a"+text+"b"), printed)
		wantRule(t, rule(0, 0, "*", strings.Repeat("a", 14)+text+strings.Repeat("b", 15)), printed)
		wantRule(t, rule(0, 0, text, "*"), small || b == '*')
		wantRule(t, rule(0, 0, text+"a", "*"), small)
		wantRule(t, rule(0, 0, "a"+text, "*"), inner)
		wantRule(t, rule(0, 0, "a"+text+"b", "*"), inner)
	}
}

func TestRuleRightOfEachSize(t *testing.T) {
	for _, size := range []int{0, 1, 2, 19, 20, 21, 29, 30, 31, 60, 61, impl.MaxBytes, impl.MaxBytes + 1} {
		wantRule(t, rule(1, 0, strings.Repeat("a", size), "*"), size >= 1 && size <= 20)
		wantRule(t, rule(1, 0, "*", strings.Repeat("a", size)), size >= 1 && size <= 30)
	}
}

// policyCounts are how many rules a policy may have; those above 12 may not be.
func policyCounts() []int {
	return []int{0, 1, 2, 11, 12, 13, 14, 60, impl.MaxList, impl.MaxList + 1}
}

func TestPolicyRightOfEachCount(t *testing.T) {
	for _, count := range policyCounts() {
		for seed := range 5 {
			l := rulesOf(count, seed)
			if got := impl.PolicyRight(l); got != (count <= 12) {
				t.Errorf("PolicyRight of %d rules: %t", count, got)
			}
		}
	}
	if !impl.PolicyRight(nil) || !impl.PolicyRight([]impl.Rule{}) {
		t.Errorf("a policy of no rules is right")
	}
	if !impl.PolicyRight(slices.Repeat([]impl.Rule{rule(0, 0, "*", "*")}, 12)) {
		t.Errorf("rules may be alike")
	}
}

// Each rule of a policy must be right, wherever it stands.
func TestPolicyOfOneWrongRule(t *testing.T) {
	for _, wrong := range wrongRules() {
		for _, count := range []int{1, 2, 12} {
			for at := range count {
				l := rulesOf(count, at)
				l[at] = wrong
				if impl.PolicyRight(l) {
					t.Errorf("PolicyRight of %s with a wrong one at %d", briefRules(l), at)
				}
				if got := impl.PolicyText(l); got != "" {
					t.Errorf("PolicyText of %s with a wrong one at %d: %q", briefRules(l), at, got)
				}
			}
		}
	}
}

func TestPolicyTextOfKnownRules(t *testing.T) {
	cases := []struct {
		l    []impl.Rule
		want string
	}{
		{nil, ""},
		{[]impl.Rule{}, ""},
		{[]impl.Rule{rule(0, 0, "*", "rm*")}, "deny * rm*\n"},
		{[]impl.Rule{rule(1, 0, "ann", "*")}, "allow ann *\n"},
		{[]impl.Rule{rule(2, 1, "ann", "x?")}, "hold 1 ann x?\n"},
		{[]impl.Rule{rule(2, 2, "*", "a b")}, "hold 2 * a b\n"},
		{[]impl.Rule{rule(2, 3, "a_1", "~")}, "hold 3 a_1 ~\n"},
		{[]impl.Rule{rule(0, 0, "*", "*rm -rf*"), rule(2, 2, "*", "reboot*"), rule(1, 0, "ann", "*"), rule(1, 0, "bob", "ls*")},
			"deny * *rm -rf*\nhold 2 * reboot*\nallow ann *\nallow bob ls*\n"},
		{[]impl.Rule{rule(2, 0, "ann", "*")}, ""},
		{[]impl.Rule{rule(1, 0, "ann", "* ")}, ""},
		{[]impl.Rule{rule(1, 0, "ann", "*"), {}}, ""},
	}
	for _, c := range cases {
		if got := impl.PolicyText(c.l); got != c.want {
			t.Errorf("PolicyText of %s: %q, want %q", briefRules(c.l), got, c.want)
		}
	}
}

func TestPolicyTextOfEachCount(t *testing.T) {
	for _, count := range policyCounts() {
		for seed := range 20 {
			l := rulesOf(count, seed)
			if got := impl.PolicyText(l); got != textByText(l) || (got == "") != (count == 0 || count > 12) {
				t.Errorf("PolicyText of %s: %q", briefRules(l), got)
			}
		}
	}
}

// Promise 17: a right policy comes back from its text.
func TestPolicyComesBackFromItsText(t *testing.T) {
	for _, r := range rightRules() {
		text := impl.PolicyText([]impl.Rule{r})
		wantPolicy(t, text, impl.PolicyRead(text), impl.PolicyOut{Rules: []impl.Rule{r}})
	}
	for count := range impl.MaxRules + 1 {
		for seed := range 60 {
			l := rulesOf(count, seed)
			text := impl.PolicyText(l)
			wantPolicy(t, text, impl.PolicyRead(text), impl.PolicyOut{Rules: l})
		}
	}
	longest := slices.Repeat([]impl.Rule{rule(2, 3, strings.Repeat("a", 20), strings.Repeat("*", 30))}, 12)
	text := impl.PolicyText(longest)
	wantPolicy(t, "the longest one", impl.PolicyRead(text), impl.PolicyOut{Rules: longest})
	if len(text) != 12*59 {
		t.Errorf("the longest text has %d bytes", len(text))
	}
}

// wrongLines are no rule's; none has a line feed.
func wrongLines() []string {
	out := []string{
		"", " ", "foo", "deny", "deny ", "deny *", "deny * ", "deny  ", "deny   ", " deny * x", "deny  * x", "deny *  x", "deny * x ",
		"deny * ", "denY * x", "Deny * x", "DENY * x", "den * x", "denyx * x", "deny* x", "deny *x", "deny\t* x", "deny *\tx", "deny * x\r",
		"deny 0 * x", "deny 1 * x", "deny 2 * x", "deny 1 ann x", "deny1 * x", "deny ** x", "deny ? x", "deny Ann x", "deny 1nn x",
		"deny " + strings.Repeat("a", 21) + " x", "deny * " + strings.Repeat("a", 31), "deny * \x7f", "deny * a\x7fb", "deny * a\x1fb",
		"deny * \u00e9", "deny *", "deny ann", "deny x", "* x", "ann x", "allow", "allow ", "allow *", "allow * ", "allow  * x",
		"allow *  x", "allow * x ", " allow * x", "allow 0 * x", "allow 3 ann x", "allow 1 * x", "Allow * x", "alow * x", "allowed * x",
		"hold", "hold ", "hold *", "hold * x", "hold ann x", "hold  * x", "hold 0 * x", "hold 4 * x", "hold 5 * x", "hold 9 * x", "hold 10 * x",
		"hold 11 * x", "hold 01 * x", "hold 1* x", "hold 1", "hold 1 ", "hold 1 *", "hold 1 * ", "hold 1  * x", "hold 1 *  x", "hold 1 * x ",
		" hold 1 * x", "hold  1 * x", "hold1 * x", "Hold 1 * x", "holds 1 * x", "hold +1 * x", "hold -1 * x", "hold a * x", "hold 1.0 * x",
		"hold one * x", "hold 1\x00* x", "hold 1 1 * x", "hold \xb9 * x", "hold 1 ann", "hold 3 Ann x", "deny\x00* x", "0 * x", "1 0 * x", "2 1 * x",
		"# deny * x", "deny * x\x00", "\xef\xbb\xbfdeny * x", strings.Repeat("a", 60), strings.Repeat("a", 600), sample(300),
	}
	for _, digit := range "/:;" {
		out = append(out, "hold "+string(digit)+" * x")
	}
	for i, line := range out {
		out[i] = strings.ReplaceAll(line, "\n", "")
	}
	return out
}

func TestPolicyReadOfKnownTexts(t *testing.T) {
	cases := []struct {
		text string
		want impl.PolicyOut
	}{
		{"", impl.PolicyOut{}},
		{"deny * x\n", impl.PolicyOut{Rules: []impl.Rule{rule(0, 0, "*", "x")}}},
		{"allow ann a  b\n", impl.PolicyOut{Rules: []impl.Rule{rule(1, 0, "ann", "a  b")}}},
		{"hold 1 ann 1 * x\n", impl.PolicyOut{Rules: []impl.Rule{rule(2, 1, "ann", "1 * x")}}},
		{"deny deny deny\nhold 3 hold hold 3\n", impl.PolicyOut{Rules: []impl.Rule{rule(0, 0, "deny", "deny"), rule(2, 3, "hold", "hold 3")}}},
		{"hold 2 * *\nallow * ?\n", impl.PolicyOut{Rules: []impl.Rule{rule(2, 2, "*", "*"), rule(1, 0, "*", "?")}}},
		{"\n", faultAt(0)},
		{"\n\n", faultAt(0)},
		{"deny * x", faultAt(0)},
		{"deny * x\n\n", faultAt(1)},
		{"\ndeny * x\n", faultAt(0)},
		{"deny * x\nfoo", faultAt(1)},
		{"deny * x\nfoo\n", faultAt(1)},
		{"foo\ndeny * x", faultAt(0)},
		{"deny * x\nallow * x", faultAt(1)},
		{"deny * x\nallow * x\n ", faultAt(2)},
		{"deny * x\r\nallow * x\r\n", faultAt(0)},
		{"deny * x\n\nallow * x\n", faultAt(1)},
	}
	for _, c := range cases {
		wantPolicy(t, fmt.Sprintf("PolicyRead of %q", c.text), impl.PolicyRead(c.text), c.want)
	}
}

// The first line that is no rule's is told, wherever it stands, and whatever is behind it.
func TestPolicyReadOfOneWrongLine(t *testing.T) {
	for _, wrong := range wrongLines() {
		for _, count := range []int{1, 2, 5, 12} {
			for _, at := range []int{0, count / 2, count - 1} {
				lines := strings.SplitAfter(impl.PolicyText(rulesOf(count, at+count)), "\n")[:count]
				lines[at] = wrong + "\n"
				for _, text := range []string{strings.Join(lines, ""), strings.Join(lines, "") + "foo\n", strings.Join(lines, "") + "deny * x"} {
					wantPolicy(t, fmt.Sprintf("PolicyRead of %q", text), impl.PolicyRead(text), faultAt(int64(at)))
				}
			}
		}
	}
}

// A last line without its line feed is told by how many line feeds there are.
func TestPolicyReadWithoutTheLastFeed(t *testing.T) {
	for count := range impl.MaxRules {
		whole := impl.PolicyText(rulesOf(count, count))
		for _, last := range append(wrongLines(), "deny * x", "hold 2 ann a b", "allow bob *") {
			if last != "" {
				text := whole + last
				wantPolicy(t, fmt.Sprintf("PolicyRead of %q", text), impl.PolicyRead(text), faultAt(int64(count)))
			}
		}
	}
}

// Each beginning of a text is one's of the first rules, or lacks its line feed.
func TestPolicyReadOfEachBeginning(t *testing.T) {
	l := rulesOf(6, 9)
	text := impl.PolicyText(l)
	for size := range len(text) {
		feeds := strings.Count(text[:size], "\n")
		want := faultAt(int64(feeds))
		if size == 0 || text[size-1] == '\n' {
			want = impl.PolicyOut{Rules: l[:feeds]}
		}
		wantPolicy(t, fmt.Sprintf("PolicyRead of %q", text[:size]), impl.PolicyRead(text[:size]), want)
	}
}

func TestPolicyReadOfTooManyLines(t *testing.T) {
	whole := impl.PolicyText(rulesOf(12, 3))
	for _, more := range append(wrongLines(), "deny * x", "hold 1 ann a*", "allow * *") {
		for _, behind := range []string{"\n", "\ndeny * x\n", "\nfoo\n", "\nfoo", "\n\n", ""} {
			if text := whole + more + behind; text != whole {
				wantPolicy(t, fmt.Sprintf("PolicyRead of %q", text), impl.PolicyRead(text), faultAt(12))
			}
		}
	}
	for _, count := range []int{13, 14, 100, 888} {
		text := strings.Repeat("deny * x\n", count)
		wantPolicy(t, fmt.Sprintf("PolicyRead of %d lines", count), impl.PolicyRead(text), faultAt(12))
		wantPolicy(t, fmt.Sprintf("PolicyRead of foo and %d lines", count), impl.PolicyRead("foo\n"+text), faultAt(0))
	}
}

func TestPolicyReadOfGreatTexts(t *testing.T) {
	tooGreat := impl.PolicyOut{Code: impl.ErrSize}
	for _, part := range []string{"x", "\n", "deny * x\n", " ", "\x00", "deny"} {
		text := strings.Repeat(part, impl.MaxBytes+1)
		whole := text[:impl.MaxBytes]
		want := faultAt(0)
		if part == "deny * x\n" {
			want = faultAt(12)
		}
		wantPolicy(t, fmt.Sprintf("PolicyRead of MaxBytes of %q", part), impl.PolicyRead(whole), want)
		wantPolicy(t, fmt.Sprintf("PolicyRead of one more of %q", part), impl.PolicyRead(text[:impl.MaxBytes+1]), tooGreat)
	}
	full := impl.PolicyText(rulesOf(12, 1))
	wantPolicy(t, "a policy and much more", impl.PolicyRead(full+sample(impl.MaxBytes+1-len(full))), tooGreat)
	wantPolicy(t, "a policy and as much as may be", impl.PolicyRead(full+strings.Repeat("x", impl.MaxBytes-len(full))), faultAt(12))
}

// What one byte does, in each place of a text: put in, taken out, or turned into another one.
func TestPolicyReadOfEachByteTurned(t *testing.T) {
	text := "deny * a b\nhold 2 ann x?\nallow z_9 *\n"
	for at := range len(text) + 1 {
		for _, b := range []byte("\n *?ab0134dhA_\r\x00\x7f\x80~") {
			wantPolicyRead(t, text[:at]+string([]byte{b})+text[at:])
			if at < len(text) {
				wantPolicyRead(t, text[:at]+string([]byte{b})+text[at+1:])
				wantPolicyRead(t, text[:at]+text[at+1:])
			}
		}
	}
}

// textsOfRules are all texts of a policy.
func textsOfRules(l []impl.Rule) []string {
	var out []string
	for _, r := range l {
		out = append(out, r.User, r.Glob)
	}
	return out
}

// ownRules are the rules with texts that stand nowhere else.
func ownRules(l []impl.Rule) []impl.Rule {
	var out []impl.Rule
	for _, r := range l {
		out = append(out, rule(r.Kind, r.Need, strings.Clone(r.User), strings.Clone(r.Glob)))
	}
	return out
}

func TestPolicyAnswersAreNewMemory(t *testing.T) {
	l := []impl.Rule{rule(0, 0, "ann", "rm -rf*"), rule(2, 2, "bob", "reboot*"), rule(1, 0, "carol", "ls*")}
	text := strings.Clone(textByText(l))
	first, second := impl.PolicyRead(text), impl.PolicyRead(text)
	wantNewMemory(t, "PolicyRead", []string{text}, textsOfRules(first.Rules))
	wantPolicy(t, "PolicyRead", second, impl.PolicyOut{Rules: l})
	if unsafe.SliceData(first.Rules) == unsafe.SliceData(second.Rules) {
		t.Errorf("two answers of PolicyRead share their rules")
	}
	first.Rules[0] = impl.Rule{}
	wantPolicy(t, "the other answer", second, impl.PolicyOut{Rules: l})
	wantPolicy(t, "PolicyRead once more", impl.PolicyRead(text), impl.PolicyOut{Rules: l})
	for count := range 4 {
		given := ownRules(l[:count])
		wantNewMemory(t, "PolicyText", textsOfRules(given), []string{impl.PolicyText(given)})
	}
}

func TestPolicyCallsChangeNoArgument(t *testing.T) {
	for _, count := range []int{0, 1, 5, 12, 13} {
		l := rulesOf(count, count)
		kept := slices.Clone(l)
		impl.PolicyRight(l)
		impl.PolicyText(l)
		impl.Judge(l, "ann", "ls")
		if !slices.Equal(l, kept) {
			t.Errorf("rules were changed: %s", briefRules(l))
		}
	}
}

func FuzzPolicyRead(f *testing.F) {
	f.Add("deny * rm*\nhold 2 ann x?\nallow ann *\n")
	f.Add("hold 4 * x\n")
	f.Add(strings.Repeat("allow bob a b\n", 13))
	f.Add("deny * x\nallow * x")
	f.Fuzz(func(t *testing.T, text string) {
		wantPolicyRead(t, text)
		if got := impl.PolicyRead(text); got.Code == impl.OK && impl.PolicyText(got.Rules) != text {
			t.Errorf("PolicyText of what %q says: %q", text, impl.PolicyText(got.Rules))
		}
	})
}

func FuzzRules(f *testing.F) {
	f.Add(int64(2), int64(3), "ann", "a*")
	f.Add(int64(0), int64(1), "*", " ")
	f.Fuzz(func(t *testing.T, kind int64, need int64, user string, glob string) {
		r := rule(kind, need, user, glob)
		wantRule(t, r, ruleByText(r))
		l := []impl.Rule{r, rule(1, 0, user, glob)}
		if got := impl.PolicyText(l); got != textByText(l) {
			t.Errorf("PolicyText of %s: %q", briefRules(l), got)
		}
		if policyByText(l) {
			wantPolicy(t, "PolicyRead", impl.PolicyRead(impl.PolicyText(l)), impl.PolicyOut{Rules: l})
		}
	})
}
