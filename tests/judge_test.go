package tests

import (
	"fmt"
	"slices"
	"strings"
	"testing"

	"loop.example/g00455/impl"
)

// judgedByText is what Judge tells by the document's words.
func judgedByText(l []impl.Rule, user string, line string) impl.Verdict {
	if !policyByText(l) || user == "*" || !onlyUser.MatchString(byRunes(user)) || len(line) > 60 {
		return impl.Verdict{}
	}
	for _, r := range l {
		if (r.User == "*" || r.User == user) && fitsByShape(r.Glob, line) {
			return impl.Verdict{Kind: r.Kind, Need: r.Need}
		}
	}
	return impl.Verdict{}
}

func wantVerdict(t *testing.T, l []impl.Rule, user string, line string, want impl.Verdict) {
	t.Helper()
	if got := impl.Judge(l, user, line); got != want {
		t.Errorf("Judge of %s, %.40q and %.80q: got %v, want %v", briefRules(l), user, line, got, want)
	}
}

// verdicts are all that there may be.
func verdicts() []impl.Verdict {
	return []impl.Verdict{{Kind: 0}, {Kind: 1}, {Kind: 2, Need: 1}, {Kind: 2, Need: 2}, {Kind: 2, Need: 3}}
}

func TestJudgeOfKnownRules(t *testing.T) {
	l := []impl.Rule{
		rule(0, 0, "*", "*rm -rf*"), rule(2, 2, "*", "reboot*"), rule(1, 0, "ann", "*"), rule(1, 0, "bob", "ls*"), rule(2, 1, "bob", "l?"), rule(0, 0, "bob", "*"),
		rule(2, 3, "*", "who"),
	}
	deny, allow, hold := impl.Verdict{}, impl.Verdict{Kind: 1}, func(n int64) impl.Verdict { return impl.Verdict{Kind: 2, Need: n} }
	cases := []struct {
		user, line string
		want       impl.Verdict
	}{
		{"ann", "ls", allow}, {"ann", "", allow}, {"ann", "rm -rf /", deny}, {"ann", "rm -r /", allow}, {"ann", "reboot", hold(2)},
		{"ann", "reboot now", hold(2)}, {"ann", "reboot rm -rf", deny}, {"ann", "Reboot", allow}, {"ann", "who", allow},
		{"bob", "ls", allow}, {"bob", "ls -l", allow}, {"bob", "lx", hold(1)}, {"bob", "l", deny}, {"bob", "who", deny}, {"bob", "", deny},
		{"bob", "reboot", hold(2)}, {"bob", "xls", deny},
		{"carol", "ls", deny}, {"carol", "who", hold(3)}, {"carol", "whoo", deny}, {"carol", "reboot", hold(2)}, {"carol", "", deny},
		{"an", "ls", deny}, {"annn", "ls", deny}, {"ann_", "ls", deny}, {"anm", "ls", deny},
	}
	for _, c := range cases {
		wantVerdict(t, l, c.user, c.line, c.want)
	}
}

func TestJudgeOfNoRules(t *testing.T) {
	for _, user := range []string{"ann", "*", ""} {
		wantVerdict(t, nil, user, "ls", impl.Verdict{})
		wantVerdict(t, []impl.Rule{}, user, "", impl.Verdict{})
	}
}

// Of several rules that fit the first one decides, wherever it stands.
func TestJudgeByTheFirstRuleThatFits(t *testing.T) {
	misses := []impl.Rule{rule(1, 0, "bob", "*"), rule(0, 0, "ann", "lx"), rule(2, 1, "*", "ls?"), rule(2, 3, "carol", "ls"), rule(0, 0, "an", "ls")}
	fitting := [][2]string{{"ann", "ls"}, {"*", "ls"}, {"ann", "*"}, {"*", "l?"}}
	for ahead := range impl.MaxRules {
		for i, v := range verdicts() {
			for j, fit := range fitting {
				var l []impl.Rule
				for k := range ahead {
					l = append(l, misses[(i+j+k)%len(misses)])
				}
				l = append(l, rule(v.Kind, v.Need, fit[0], fit[1]))
				wantVerdict(t, l, "ann", "ls", v)
				for k := len(l); k < impl.MaxRules; k++ {
					other := verdicts()[(i+k)%len(verdicts())]
					l = append(l, rule(other.Kind, other.Need, fitting[(j+k)%4][0], fitting[(j+k)%4][1]))
				}
				wantVerdict(t, l, "ann", "ls", v)
			}
		}
	}
}

// judgedUsers and judgedLines are held against each policy below.
func judgedUsers() []string {
	return append(slices.DeleteFunc(rightUsers(), func(user string) bool { return user == "*" }), "carol", "an", "deny1")
}

func judgedLines() []string {
	return []string{"", "a", "!", "~", "a b", "ls", "rm", "rm x", "x rm", "arbm", "[a-z]", "1", "deny * x", strings.Repeat("~", 30), "\x00", "\u00e9\n", sample(60)}
}

// Promise 17: a rule ahead of a policy that fits all decides.
func TestJudgeByARuleThatFitsAll(t *testing.T) {
	for count := range impl.MaxRules {
		l := rulesOf(count, count*5)
		for _, v := range verdicts() {
			for _, stars := range []string{"*", "**", strings.Repeat("*", 30)} {
				led := append([]impl.Rule{rule(v.Kind, v.Need, "*", stars)}, l...)
				for _, user := range judgedUsers() {
					for _, line := range judgedLines() {
						wantVerdict(t, led, user, line, v)
					}
				}
			}
		}
	}
}

// One more rule than there may be denies all, even if it fits all.
func TestJudgeOfTooManyRules(t *testing.T) {
	for _, count := range []int{11, 12, 13, 14, impl.MaxList, impl.MaxList + 1} {
		l := slices.Repeat([]impl.Rule{rule(2, 3, "*", "*")}, count)
		want := impl.Verdict{}
		if count <= 12 {
			want = impl.Verdict{Kind: 2, Need: 3}
		}
		wantVerdict(t, l, "ann", "ls", want)
	}
}

// A rule that is not right makes its policy deny all, also where one ahead of it fits.
func TestJudgeOfOneWrongRule(t *testing.T) {
	for _, wrong := range wrongRules() {
		for _, count := range []int{1, 2, 12} {
			for _, at := range []int{0, count / 2, count - 1} {
				l := slices.Repeat([]impl.Rule{rule(1, 0, "*", "*")}, count)
				wantVerdict(t, l, "ann", "ls", impl.Verdict{Kind: 1})
				l[at] = wrong
				wantVerdict(t, l, "ann", "ls", impl.Verdict{})
				wantVerdict(t, l, wrong.User, wrong.Glob, impl.Verdict{})
			}
		}
	}
}

// Who is no name may nothing, not even by a rule of all users, nor by one that is written alike.
func TestJudgeOfUsersThatAreNone(t *testing.T) {
	all := []impl.Rule{rule(1, 0, "*", "*")}
	for _, user := range append(wrongUsers(), "*") {
		wantVerdict(t, all, user, "ls", impl.Verdict{})
		wantVerdict(t, all, user, "", impl.Verdict{})
		wantVerdict(t, append(slices.Clone(all), rule(1, 0, "ann", "*")), user, "ls", impl.Verdict{})
	}
	for _, user := range judgedUsers() {
		wantVerdict(t, all, user, "ls", impl.Verdict{Kind: 1})
	}
}

func TestJudgeOfEachLineSize(t *testing.T) {
	for _, size := range []int{0, 1, 30, 59, 60, 61, 62, impl.MaxBytes, impl.MaxBytes + 1} {
		for _, v := range verdicts() {
			want := v
			if size > 60 {
				want = impl.Verdict{}
			}
			wantVerdict(t, []impl.Rule{rule(v.Kind, v.Need, "*", "*")}, "ann", strings.Repeat("a", size), want)
			wantVerdict(t, []impl.Rule{rule(v.Kind, v.Need, "ann", "*")}, "ann", sample(size), want)
		}
		wantVerdict(t, []impl.Rule{rule(1, 0, strings.Repeat("a", 20), "*")}, strings.Repeat("a", size), "ls", impl.Verdict{})
	}
	name := strings.Repeat("a", 20)
	wantVerdict(t, []impl.Rule{rule(1, 0, name, "*")}, name, "ls", impl.Verdict{Kind: 1})
	wantVerdict(t, []impl.Rule{rule(1, 0, "*", "*")}, name+"a", "ls", impl.Verdict{})
}

// A line need not be printed: a star and a question mark fit any bytes.
func TestJudgeOfLinesOfAnyBytes(t *testing.T) {
	l := []impl.Rule{rule(2, 1, "ann", "?"), rule(1, 0, "ann", "*")}
	for b := range 256 {
		text := string([]byte{byte(b)})
		wantVerdict(t, l, "ann", text, impl.Verdict{Kind: 2, Need: 1})
		wantVerdict(t, l, "ann", text+text, impl.Verdict{Kind: 1})
		wantVerdict(t, l, "bob", text, impl.Verdict{})
	}
}

// All policies of up to three small rules, held against the document's words.
func TestJudgeOfAllSmallPolicies(t *testing.T) {
	var small []impl.Rule
	for i, user := range []string{"*", "a", "b"} {
		for j, glob := range []string{"*", "x", "x*", "?"} {
			v := verdicts()[(i*4+j)%5]
			small = append(small, rule(v.Kind, v.Need, user, glob))
		}
	}
	for i, first := range small {
		for _, second := range small {
			l := []impl.Rule{first, second, small[(i*5+1)%len(small)]}
			for _, user := range []string{"a", "b", "c"} {
				for _, line := range []string{"", "x", "y", "xy", "yx"} {
					wantVerdict(t, l, user, line, judgedByText(l, user, line))
				}
			}
		}
	}
}

func TestJudgeOfManyPolicies(t *testing.T) {
	rolled := &dice{seed: 17}
	seen := map[impl.Verdict]int{}
	for range 3000 {
		var l []impl.Rule
		for range rolled.below(14) {
			v := verdicts()[rolled.below(5)]
			l = append(l, rule(v.Kind, v.Need, []string{"*", "ann", "bob", "bo", "carol"}[rolled.below(5)], globBySeed(rolled, 4)))
		}
		for range 3 {
			user := []string{"ann", "bob", "bo", "carol", "*"}[rolled.below(5)]
			line := textThatFits(rolled, globBySeed(rolled, 3), 3)
			want := judgedByText(l, user, line)
			wantVerdict(t, l, user, line, want)
			seen[want]++
		}
	}
	for _, v := range verdicts() {
		if seen[v] < 100 {
			t.Errorf("only %d of %v were told", seen[v], v)
		}
	}
}

// What a policy's text says decides the same as the policy.
func TestJudgeOfAPolicyFromItsText(t *testing.T) {
	for seed := range 12 {
		l := rulesOf(12, seed)
		back := impl.PolicyRead(impl.PolicyText(l)).Rules
		for _, user := range judgedUsers() {
			for _, line := range judgedLines() {
				want := judgedByText(l, user, line)
				wantVerdict(t, l, user, line, want)
				wantVerdict(t, back, user, line, want)
			}
		}
	}
}

func FuzzJudge(f *testing.F) {
	f.Add("deny * rm*\nhold 2 ann x?\nallow ann *\n", int64(2), int64(2), "*", "*", "ann", "xy")
	f.Add("allow ann *\n", int64(0), int64(0), "bob", "?", "ann", "")
	f.Fuzz(func(t *testing.T, text string, kind int64, need int64, whose string, glob string, user string, line string) {
		l := append(impl.PolicyRead(text).Rules, rule(kind, need, whose, glob))
		what := fmt.Sprintf("Judge of %s, %q and %q", briefRules(l), user, line)
		if got := impl.Judge(l, user, line); got != judgedByText(l, user, line) {
			t.Errorf("%s: got %v", what, got)
		}
		led := append([]impl.Rule{rule(2, 3, "*", "*")}, l...)
		if policyByText(led) && impl.NameRight(user) && len(line) <= 60 {
			wantVerdict(t, led, user, line, impl.Verdict{Kind: 2, Need: 3})
		}
	})
}
