package tests

import (
	"fmt"
	"math"
	"regexp"
	"strings"
	"testing"
	"unsafe"

	"loop.example/crossbuck/impl"
)

// ruleForm is the texts of valid rules, as the document describes them.
var ruleForm = regexp.MustCompile(`\A[0-9] [01x]{6} [0-4] [-0-3]\z`)

// allRules is the 182250 valid rules.
func allRules() []impl.Rule {
	var l []impl.Rule
	for prio := 0; prio <= 9; prio++ {
		for _, w := range allWilds() {
			for out := 0; out <= 4; out++ {
				for tag := -1; tag <= 3; tag++ {
					l = append(l, impl.Rule{Prio: prio, Match: w, Out: out, Tag: tag})
				}
			}
		}
	}
	return l
}

// someRules has each field at several values, its least and its greatest among them.
func someRules() []impl.Rule {
	var l []impl.Rule
	for _, prio := range []int{0, 1, 5, 9} {
		for _, w := range []string{"xxxxxx", "000000", "111111", "01xxxx", "xxxx10", "x0x1x0"} {
			for _, out := range []int{0, 3, 4} {
				for _, tag := range []int{-1, 0, 3} {
					l = append(l, impl.Rule{Prio: prio, Match: w, Out: out, Tag: tag})
				}
			}
		}
	}
	return l
}

// noRules is rules with one part that is wrong, and some with several.
func noRules() []impl.Rule {
	l := []impl.Rule{{}, {Prio: -1, Out: -1, Tag: -2}, {Prio: 10, Match: "xxxxxxx", Out: 5, Tag: 4}, {Match: "xxxxxx", Out: 5, Tag: 4}}
	for _, r := range []impl.Rule{{Prio: 5, Match: "01xxxx", Out: 3, Tag: -1}, {Prio: 0, Match: "xxxxxx", Out: 0, Tag: 0}, {Prio: 9, Match: "111111", Out: 4, Tag: 3}} {
		for _, prio := range ruleNumbers(0, 9) {
			l = append(l, impl.Rule{Prio: prio, Match: r.Match, Out: r.Out, Tag: r.Tag})
		}
		for _, w := range noWilds() {
			l = append(l, impl.Rule{Prio: r.Prio, Match: w, Out: r.Out, Tag: r.Tag})
		}
		for _, out := range ruleNumbers(0, impl.OutMax) {
			l = append(l, impl.Rule{Prio: r.Prio, Match: r.Match, Out: out, Tag: r.Tag})
		}
		for _, tag := range ruleNumbers(-1, impl.FieldMax) {
			l = append(l, impl.Rule{Prio: r.Prio, Match: r.Match, Out: r.Out, Tag: tag})
		}
	}
	return l
}

// ruleNumbers is numbers outside a range: the nearest, the farthest, and some that wrap around to numbers inside it.
func ruleNumbers(least int, greatest int) []int {
	l := []int{math.MinInt, math.MaxInt, least - 1, least - 2, greatest + 1, greatest + 2}
	for _, base := range []int{1 << 8, 1 << 16, 1 << 32, -1 << 8, -1 << 16, -1 << 32} {
		l = append(l, base+least, base, base+greatest)
	}
	return l
}

// wantRuleText is RuleText of a valid rule, by the document's definition.
func wantRuleText(r impl.Rule) string {
	if r.Tag == -1 {
		return fmt.Sprintf("%d %s %d -", r.Prio, r.Match, r.Out)
	}
	return fmt.Sprintf("%d %s %d %d", r.Prio, r.Match, r.Out, r.Tag)
}

// wantRuleCmp is RuleCmp of two valid rules, by the document's definition.
func wantRuleCmp(a impl.Rule, b impl.Rule) int {
	switch {
	case a.Prio > b.Prio:
		return -1
	case a.Prio < b.Prio:
		return 1
	}
	return strings.Compare(wantRuleText(a), wantRuleText(b))
}

func TestRuleLimits(t *testing.T) {
	if impl.OutMax != 4 {
		t.Errorf("OutMax is %d", impl.OutMax)
	}
	if l := allRules(); len(l) != 182250 {
		t.Errorf("%d valid rules", len(l))
	}
	seen := map[impl.Rule]bool{}
	for _, r := range someRules() {
		seen[r] = true
	}
	if len(seen) != 216 {
		t.Errorf("%d of some rules", len(seen))
	}
}

// Promise 38.
func TestRuleReadBack(t *testing.T) {
	for _, r := range allRules() {
		want := wantRuleText(r)
		if text := impl.RuleText(r); text != want {
			t.Fatalf("RuleText(%v) is %q", r, text)
		}
		if q, ok := impl.RuleRead(want); !ok || q != r {
			t.Fatalf("RuleRead(%q) is %v, %v", want, q, ok)
		}
		if !impl.RuleOk(r) {
			t.Fatalf("RuleOk(%v) is false", r)
		}
	}
}

func TestRuleExample(t *testing.T) {
	r := impl.Rule{Prio: 5, Match: "01xxxx", Out: 3, Tag: -1}
	if text := impl.RuleText(r); text != "5 01xxxx 3 -" {
		t.Errorf("RuleText(%v) is %q", r, text)
	}
	if q, ok := impl.RuleRead("5 01xxxx 3 -"); !ok || q != r {
		t.Errorf("RuleRead is %v, %v", q, ok)
	}
	if h, out, ok := impl.RuleDo(r, impl.Head{Src: 1, Dst: 2, Tag: 3}); !ok || out != 3 || h != (impl.Head{Src: 1, Dst: 2, Tag: 3}) {
		t.Errorf("RuleDo is %v, %d, %v", h, out, ok)
	}
}

// checkRuleRead compares RuleRead of any text with ruleForm (promise 39).
func checkRuleRead(t *testing.T, text string) {
	t.Helper()
	r, ok := impl.RuleRead(text)
	if ok != ruleForm.MatchString(text) {
		t.Fatalf("RuleRead(%.40q) is %v, %v", text, r, ok)
	}
	if !ok && r != (impl.Rule{}) {
		t.Fatalf("RuleRead(%.40q) fails with %v", text, r)
	}
	if ok && (!impl.RuleOk(r) || impl.RuleText(r) != text || wantRuleText(r) != text) {
		t.Fatalf("RuleRead(%q) is %v, with the text %q", text, r, impl.RuleText(r))
	}
}

// Promise 39: the texts that the document or its form rules out by name.
func TestRuleReadCases(t *testing.T) {
	for _, text := range []string{
		"", " ", "   ", "    ", "-", "5", "5 01xxxx", "5 01xxxx 3", "5 01xxxx 3 ", "01xxxx 3 -", "5 3 -", " 01xxxx 3 -", "5  3 -", "5 01xxxx  -",
		"5 01xxxx 3 - ", "5 01xxxx 3 - -", "5 01xxxx 3 2 1", "5 01xxxx 3 - 5 01xxxx 3 -", "5 5 01xxxx 3 -", "5 01xxxx 3 -\n", "\n5 01xxxx 3 -", "5 01xxxx 3 -\x00",
		"5  01xxxx 3 -", "5 01xxxx  3 -", "5 01xxxx 3  -", " 5 01xxxx 3 -", "5 01xxxx 3 -  ", "5 01 xxxx 3 -", "501xxxx 3 -", "5 01xxxx3 -", "5 01xxxx 3-", "501xxxx3-",
		"+5 01xxxx 3 -", "-5 01xxxx 3 -", "-0 01xxxx 3 -", "+0 01xxxx 3 -", "-1 01xxxx 3 -", "5 01xxxx +3 -", "5 01xxxx -3 -", "5 01xxxx -0 -", "5 01xxxx -1 -",
		"5 01xxxx 3 +2", "5 01xxxx 3 -2", "5 01xxxx 3 -0", "5 01xxxx 3 +0", "5 01xxxx 3 -1", "5 01xxxx 3 --", "5 01xxxx 3 --1", "5 01xxxx 3 +", "5 01xxxx - -", "- 01xxxx 3 -", "5 - 3 -",
		"05 01xxxx 3 -", "00 01xxxx 3 -", "5 01xxxx 03 -", "5 01xxxx 00 -", "5 01xxxx 3 02", "5 01xxxx 3 00", "005 01xxxx 3 -", "5 001xxxx 3 -",
		"10 01xxxx 3 -", "11 01xxxx 3 -", "99 01xxxx 3 -", "5 01xxxx 10 -", "5 01xxxx 30 -", "5 01xxxx 3 10", "5 01xxxx 3 20", "5 01xxxx 5 -", "5 01xxxx 9 -", "5 01xxxx 3 4", "5 01xxxx 3 9",
		"5\t01xxxx 3 -", "5 01xxxx\t3 -", "5 01xxxx 3\t-", "5\t01xxxx\t3\t-", "5.01xxxx.3.-", "5,01xxxx,3,-", "5\u00a001xxxx 3 -",
		"01xxxx 5 3 -", "5 3 01xxxx -", "- 3 01xxxx 5", "5 01xxxx - 3", "01xxxx 3 - 5", "3 5 - 01xxxx", "- 5 01xxxx 3",
		"5 01xxx 3 -", "5 01xxxxx 3 -", "5 01XXXX 3 -", "5 012xxx 3 -", "5 01xxx\xff 3 -", "5 01xxx\x00 3 -", "a 01xxxx 3 -", "5 01xxxx a -", "5 01xxxx 3 a", "/ 01xxxx 3 -", ": 01xxxx 3 -", "5 01xxxx / -", "5 01xxxx 3 /", "5 01xxxx 3 .", "5 01xxxx 3 \xff",
		"0x5 01xxxx 3 -", "5 01xxxx 0b1 -", "5 01xxxx 3 1e0", "5 01xxxx 1_ -", "5 01xxxx 18446744073709551619 -", "18446744073709551616 01xxxx 3 -", "5 01xxxx 3 18446744073709551615", "5 01xxxx 3 4294967295",
		"\uff15 01xxxx 3 -", "5 01xxxx \u0663 -", strings.Repeat(" ", 12), strings.Repeat(" ", 1<<16), strings.Repeat("5 01xxxx 3 -", 1<<12), "5 " + strings.Repeat("x", 1<<16) + " 3 -",
	} {
		if ruleForm.MatchString(text) {
			t.Errorf("%.40q has the form of a rule", text)
		}
		checkRuleRead(t, text)
	}
	for _, text := range []string{"5 01xxxx 3 -", "0 000000 0 0", "9 111111 4 3", "0 xxxxxx 0 -"} {
		if !ruleForm.MatchString(text) {
			t.Errorf("%q has not the form of a rule", text)
		}
		checkRuleRead(t, text)
	}
}

// Promise 39: each text of a rule with a byte more, a byte less or another byte, at every place.
func TestRuleReadChanges(t *testing.T) {
	for _, text := range []string{"5 01xxxx 3 -", "0 000000 0 0", "9 111111 4 3", "1 x0x1x0 2 1", "7 xxxxxx 1 -"} {
		for i := range len(text) + 1 {
			for b := range 256 {
				sign := string([]byte{byte(b)})
				checkRuleRead(t, text[:i]+sign+text[i:])
				if i < len(text) {
					checkRuleRead(t, text[:i]+sign+text[i+1:])
				}
			}
			checkRuleRead(t, text[:i])
			checkRuleRead(t, text[i:])
			for j := i + 1; j < len(text); j++ {
				checkRuleRead(t, text[:i]+text[j:])
				checkRuleRead(t, text[:i]+text[j:j+1]+text[i+1:j]+text[i:i+1]+text[j+1:])
			}
		}
	}
}

// Promise 40, for every pattern, port and tag with every header.
func TestRuleDoEach(t *testing.T) {
	heads := validHeads()
	sets := wildSets()
	for i, w := range allWilds() {
		for out := 0; out <= 4; out++ {
			for tag := -1; tag <= 3; tag++ {
				r := impl.Rule{Prio: (i + out) % 10, Match: w, Out: out, Tag: tag}
				for n, h := range heads {
					checkRuleDo(t, r, h, sets[w]>>n&1 == 1)
				}
			}
		}
	}
}

func checkRuleDo(t *testing.T, r impl.Rule, h impl.Head, want bool) {
	t.Helper()
	g, out, ok := impl.RuleDo(r, h)
	wantHead, wantOut := impl.Head{}, 0
	if want {
		wantHead, wantOut = h, r.Out
		if r.Tag >= 0 {
			wantHead.Tag = r.Tag
		}
	}
	if ok != want || g != wantHead || out != wantOut {
		t.Fatalf("RuleDo(%v, %v) is %v, %d, %v", r, h, g, out, ok)
	}
}

// A tag of -1 stays, and a tag of 0 is a tag like the others.
func TestRuleTagStays(t *testing.T) {
	for tag := 0; tag <= 3; tag++ {
		h := impl.Head{Src: 1, Dst: 2, Tag: tag}
		for _, c := range []struct {
			text string
			rule impl.Rule
			tag  int
		}{
			{"5 01xxxx 3 -", impl.Rule{Prio: 5, Match: "01xxxx", Out: 3, Tag: -1}, tag},
			{"5 01xxxx 3 0", impl.Rule{Prio: 5, Match: "01xxxx", Out: 3, Tag: 0}, 0},
			{"0 xxxxxx 0 -", impl.Rule{Match: "xxxxxx", Tag: -1}, tag},
			{"0 xxxxxx 0 0", impl.Rule{Match: "xxxxxx"}, 0},
			{"9 xxxxxx 4 3", impl.Rule{Prio: 9, Match: "xxxxxx", Out: 4, Tag: 3}, 3},
		} {
			if text := impl.RuleText(c.rule); text != c.text {
				t.Errorf("RuleText(%v) is %q", c.rule, text)
			}
			want := impl.Head{Src: 1, Dst: 2, Tag: c.tag}
			if g, out, ok := impl.RuleDo(c.rule, h); !ok || out != c.rule.Out || g != want {
				t.Errorf("RuleDo(%v, %v) is %v, %d, %v", c.rule, h, g, out, ok)
			}
		}
	}
}

// RuleDo fails with zero values, also where several things are wrong at once.
func TestRuleDoFails(t *testing.T) {
	rules := []impl.Rule{
		{Prio: 5, Match: "xxxxxx", Out: 3, Tag: -1}, {Prio: 0, Match: "xxxxxx", Out: 0, Tag: 0}, {Prio: 9, Match: "xxxxxx", Out: 4, Tag: 3},
		{Prio: 5, Match: "01xxxx", Out: 3, Tag: 1}, {Prio: 5, Match: "xxxx00", Out: 3, Tag: 2}, {Prio: 5, Match: "111111", Out: 1, Tag: -1},
	}
	for _, h := range invalidHeads() {
		for _, r := range rules {
			checkRuleDo(t, r, h, false)
		}
	}
	for _, r := range noRules() {
		for _, h := range append(validHeads(), impl.Head{Src: 4}, impl.Head{Tag: -1}) {
			checkRuleDo(t, r, h, false)
		}
	}
}

// Promise 41: antisymmetry, 0 for equal rules only, and the order itself, over every two of some rules.
func TestRuleCmpPairs(t *testing.T) {
	rules := someRules()
	for _, a := range rules {
		for _, b := range rules {
			got := impl.RuleCmp(a, b)
			if got != wantRuleCmp(a, b) || got != -impl.RuleCmp(b, a) || (got == 0) != (a == b) {
				t.Fatalf("RuleCmp(%v, %v) is %d, and %d the other way round", a, b, got, impl.RuleCmp(b, a))
			}
			if a.Prio > b.Prio && got != -1 {
				t.Fatalf("RuleCmp(%v, %v) is %d", a, b, got)
			}
		}
	}
}

// Promise 42, over every three of some rules.
func TestRuleCmpThrees(t *testing.T) {
	rules := someRules()
	order := make([][]int, len(rules))
	for i, a := range rules {
		for _, b := range rules {
			order[i] = append(order[i], impl.RuleCmp(a, b))
		}
	}
	for i := range rules {
		for j := range rules {
			if order[i][j] > 0 {
				continue
			}
			for k := range rules {
				if order[j][k] <= 0 && order[i][k] != min(order[i][j], order[j][k]) {
					t.Fatalf("RuleCmp of %v, %v and %v: %d, %d and %d", rules[i], rules[j], rules[k], order[i][j], order[j][k], order[i][k])
				}
			}
		}
	}
}

// Promises 41 and 42, over all rules in the order of the document: each stands ahead of the next, and of one farther on.
func TestRuleCmpAll(t *testing.T) {
	var rules []impl.Rule
	for prio := 9; prio >= 0; prio-- {
		// These signs are in the order of their bytes, so the texts of one Prio come out ascending.
		for _, w := range allWilds() {
			for out := 0; out <= 4; out++ {
				for tag := -1; tag <= 3; tag++ {
					rules = append(rules, impl.Rule{Prio: prio, Match: w, Out: out, Tag: tag})
				}
			}
		}
	}
	for i, a := range rules {
		if impl.RuleCmp(a, a) != 0 {
			t.Fatalf("RuleCmp(%v, itself) is %d", a, impl.RuleCmp(a, a))
		}
		for _, j := range []int{i + 1, i + 997} {
			if j >= len(rules) {
				continue
			}
			if b := rules[j]; impl.RuleCmp(a, b) != -1 || impl.RuleCmp(b, a) != 1 {
				t.Fatalf("RuleCmp(%v, %v) is %d, and %d the other way round", a, b, impl.RuleCmp(a, b), impl.RuleCmp(b, a))
			}
		}
	}
}

// The first of each two stands ahead: rules that differ in one field, and some of which a later field alone would have it the other way round.
func TestRuleCmpCases(t *testing.T) {
	for _, c := range [][2]string{
		{"5 01xxxx 3 -", "4 01xxxx 3 -"}, {"9 01xxxx 3 -", "0 01xxxx 3 -"}, {"1 01xxxx 3 -", "0 01xxxx 3 -"}, {"9 01xxxx 3 -", "8 01xxxx 3 -"},
		{"5 00xxxx 3 -", "5 01xxxx 3 -"}, {"5 01xxxx 3 -", "5 0xxxxx 3 -"}, {"5 11111x 3 -", "5 x00000 3 -"}, {"5 000000 3 -", "5 000001 3 -"}, {"5 000001 3 -", "5 00000x 3 -"},
		{"5 01xxxx 0 -", "5 01xxxx 1 -"}, {"5 01xxxx 3 -", "5 01xxxx 4 -"}, {"5 01xxxx 0 -", "5 01xxxx 4 -"},
		{"5 01xxxx 3 -", "5 01xxxx 3 0"}, {"5 01xxxx 3 0", "5 01xxxx 3 1"}, {"5 01xxxx 3 -", "5 01xxxx 3 3"}, {"5 01xxxx 3 2", "5 01xxxx 3 3"},
		{"5 xxxxxx 4 3", "4 000000 0 -"}, {"5 000000 4 3", "5 000001 0 -"}, {"5 000000 1 3", "5 000000 2 -"},
	} {
		a, first := impl.RuleRead(c[0])
		b, second := impl.RuleRead(c[1])
		if !first || !second {
			t.Fatalf("%q or %q is not read", c[0], c[1])
		}
		if impl.RuleCmp(a, b) != -1 || impl.RuleCmp(b, a) != 1 || impl.RuleCmp(a, a) != 0 || impl.RuleCmp(b, b) != 0 {
			t.Errorf("RuleCmp of %q and %q is %d, and %d the other way round", c[0], c[1], impl.RuleCmp(a, b), impl.RuleCmp(b, a))
		}
	}
}

// An invalid rule in either place, and in both, is 0.
func TestRuleCmpInvalid(t *testing.T) {
	no := noRules()
	for i, a := range no {
		for _, b := range []impl.Rule{{Prio: 5, Match: "01xxxx", Out: 3, Tag: -1}, {Prio: 0, Match: "xxxxxx", Out: 4, Tag: 3}, {Prio: 9, Match: "000000", Out: 0, Tag: -1}, a, no[(i+1)%len(no)], no[(i+61)%len(no)]} {
			if impl.RuleCmp(a, b) != 0 || impl.RuleCmp(b, a) != 0 {
				t.Fatalf("RuleCmp of %v and %v is %d, and %d the other way round", a, b, impl.RuleCmp(a, b), impl.RuleCmp(b, a))
			}
		}
	}
}

// Promise 43: every number on both sides of each bound, and what is no pattern.
func TestRuleOkBounds(t *testing.T) {
	for prio := -1; prio <= 10; prio++ {
		for out := -1; out <= impl.OutMax+1; out++ {
			for tag := -2; tag <= impl.FieldMax+1; tag++ {
				want := prio >= 0 && prio <= 9 && out >= 0 && out <= 4 && tag >= -1 && tag <= 3
				for _, w := range []string{"01xxxx", "xxxxxx", "000000", "111111"} {
					checkRuleOk(t, impl.Rule{Prio: prio, Match: w, Out: out, Tag: tag}, want)
				}
				for _, w := range []string{"", "01xxx", "01xxxxx", "01xxx2", "01xxx ", "01xxxX", "1.2.3"} {
					checkRuleOk(t, impl.Rule{Prio: prio, Match: w, Out: out, Tag: tag}, false)
				}
			}
		}
	}
	for _, r := range noRules() {
		checkRuleOk(t, r, false)
	}
}

func checkRuleOk(t *testing.T, r impl.Rule, want bool) {
	t.Helper()
	if impl.RuleOk(r) != want {
		t.Fatalf("RuleOk(%v) is %v", r, !want)
	}
	if text := impl.RuleText(r); (text != "") != want {
		t.Fatalf("RuleText(%v) is %q", r, text)
	}
}

// A result shares no bytes with the argument it was made of.
func TestRuleOwnMemory(t *testing.T) {
	text := strings.Clone("5 01xxxx 3 -")
	r, ok := impl.RuleRead(text)
	if !ok || bytesMeet(r.Match, text) {
		t.Errorf("RuleRead(%q): %v, %v, in the same memory", text, r, ok)
	}
	r.Match = strings.Clone("01xxxx")
	if made := impl.RuleText(r); made != text || bytesMeet(made, r.Match) {
		t.Errorf("RuleText(%v): %q, in the same memory", r, made)
	}
}

func bytesMeet(a string, b string) bool {
	firstA, firstB := uintptr(unsafe.Pointer(unsafe.StringData(a))), uintptr(unsafe.Pointer(unsafe.StringData(b)))
	return firstA < firstB+uintptr(len(b)) && firstB < firstA+uintptr(len(a))
}
