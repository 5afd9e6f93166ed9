package tests

import (
	"fmt"
	"math"
	"math/rand/v2"
	"runtime"
	"slices"
	"strconv"
	"strings"
	"sync"
	"testing"
	"time"
	"unsafe"

	"loop.example/crossbuck/impl"
)

// countPreds is, at each index, a condition whose canonical list has so many patterns.
var countPreds = []string{
	"0", "1", "!s0", "|t0d3", "!&s0d0", "|!t3s0", "!&&d1t3s0", "|s2|d2t2", "!|t2&d2s3", "|s0!|t3d3",
	"!&d3|t1s2", "|!|t0s0d1", "|!t2&d2!s2", "|&t1s0!|t0d0", "&!t1|d1|d2|t2s2",
}

// effect is what becomes of a header.
type effect struct {
	head impl.Head
	out  int
}

// clausesOf is the clauses of some texts, each a condition, a port, and a tag or "-".
func clausesOf(texts ...string) []impl.Clause {
	var l []impl.Clause
	for _, text := range texts {
		parts := strings.Fields(text)
		out, err := strconv.Atoi(parts[1])
		c := impl.Clause{Pred: parts[0], Out: out, Tag: -1}
		if parts[2] != "-" && err == nil {
			c.Tag, err = strconv.Atoi(parts[2])
		}
		if err != nil || !predText(c.Pred) {
			panic("no clause: " + text)
		}
		l = append(l, c)
	}
	return l
}

// predSet is the headers for which a condition holds, one bit for each number.
func predSet(text string) uint64 {
	set, rest := firstPredSet(text)
	if rest != "" {
		panic("no condition: " + text)
	}
	return set
}

// firstPredSet is predSet of the condition with which a text begins, and what follows it.
func firstPredSet(text string) (uint64, string) {
	switch text[0] {
	case '0':
		return 0, text[1:]
	case '1':
		return allHeads, text[1:]
	case '!':
		set, rest := firstPredSet(text[1:])
		return ^set, rest
	case '&', '|':
		first, rest := firstPredSet(text[1:])
		second, rest := firstPredSet(rest)
		if text[0] == '&' {
			return first & second, rest
		}
		return first | second, rest
	}
	var set uint64
	for n, h := range validHeads() {
		if fieldOf(h, rune(text[0])) == int(text[1]-'0') {
			set |= 1 << n
		}
	}
	return set, text[2:]
}

// headPred is a condition that holds for one header alone.
func headPred(h impl.Head) string {
	return fmt.Sprintf("&s%d&d%dt%d", h.Src, h.Dst, h.Tag)
}

// predSets is the headers for which each condition of a list holds.
func predSets(l []impl.Clause) []uint64 {
	var sets []uint64
	for _, c := range l {
		sets = append(sets, predSet(c.Pred))
	}
	return sets
}

// wantClauseAt is, for each header, the index of the clause that handles it, or -1.
func wantClauseAt(l []impl.Clause) []int {
	sets := predSets(l)
	var at []int
	for n := range 64 {
		at = append(at, slices.IndexFunc(sets, func(set uint64) bool { return set>>n&1 == 1 }))
	}
	return at
}

// wantClauseDo is what a clause makes of a header for which its condition holds.
func wantClauseDo(c impl.Clause, h impl.Head) effect {
	if c.Tag >= 0 {
		h.Tag = c.Tag
	}
	return effect{h, c.Out}
}

// wantClausesDo is ClausesDo of a list and each header, by the document's definition.
func wantClausesDo(l []impl.Clause) []effect {
	at := wantClauseAt(l)
	var effects []effect
	for n, h := range validHeads() {
		if at[n] == -1 {
			effects = append(effects, effect{h, 0})
		} else {
			effects = append(effects, wantClauseDo(l[at[n]], h))
		}
	}
	return effects
}

// wantClauseRules is the rules of a list of clauses, however many, in the order of the document.
func wantClauseRules(l []impl.Clause) []impl.Rule {
	var rules []impl.Rule
	for i, c := range l {
		for _, w := range wantSpace(predSet(c.Pred)) {
			rules = append(rules, impl.Rule{Prio: 9 - i, Match: w, Out: c.Out, Tag: c.Tag})
		}
	}
	return inOrder(rules)
}

// wantFit is ClausesFit of a valid list and a table.
func wantFit(l []impl.Clause, table []impl.Rule) bool {
	for n, want := range wantClausesDo(l) {
		h, out := wantDo(table, n)
		if out != want.out || out != 0 && h != want.head {
			return false
		}
	}
	return true
}

// countClauses is one clause for each number, whose rules are so many.
func countClauses(counts ...int) []impl.Clause {
	var l []impl.Clause
	for i, count := range counts {
		l = append(l, impl.Clause{Pred: countPreds[count], Out: (i + 1) % 5, Tag: i%5 - 1})
	}
	return l
}

// fullClauses is lists whose tables have TableMax rules, and overfullClauses lists whose tables would have more, most of them one.
func fullClauses() [][]impl.Clause {
	return [][]impl.Clause{
		countClauses(8, 8, 8, 8, 8, 8),
		countClauses(14, 14, 14, 6),
		countClauses(6, 14, 14, 14),
		countClauses(12, 12, 12, 12),
		countClauses(0, 12, 12, 0, 12, 12),
		countClauses(1, 14, 14, 14, 5),
		countClauses(14, 14, 14, 5, 1),
		countClauses(13, 1, 11, 2, 9, 12),
		countClauses(14, 14, 14, 6, 0, 0),
	}
}

func overfullClauses() [][]impl.Clause {
	l := [][]impl.Clause{
		countClauses(14, 14, 14, 7),
		countClauses(7, 14, 14, 14),
		countClauses(12, 12, 12, 12, 1),
		countClauses(12, 12, 12, 12, 0, 1),
		countClauses(1, 12, 12, 12, 12),
		countClauses(1, 14, 14, 14, 6),
		countClauses(13, 1, 11, 2, 9, 13),
		countClauses(14, 14, 14, 14),
		countClauses(14, 14, 14, 14, 14, 14),
	}
	for at := range 6 {
		counts := []int{8, 8, 8, 8, 8, 8}
		counts[at] = 9
		l = append(l, countClauses(counts...))
	}
	return l
}

// coveredClauses is lists whose last clause handles no header: only the earlier ones together have all for which its condition holds.
func coveredClauses() [][]impl.Clause {
	return [][]impl.Clause{
		clausesOf("s0 1 -", "!s0 2 -", "d1 3 -"),
		clausesOf("s0 1 -", "!s0 2 -", "1 3 2"),
		clausesOf("&s1d0 1 0", "&s1!d0 1 0", "s1 4 -"),
		clausesOf("t0 0 -", "t1 1 -", "t2 2 -", "t3 3 -", "&s2d2 4 -"),
		clausesOf("t0 0 -", "t1 1 -", "t2 2 -", "t3 3 -", "|s2d2 4 1"),
		clausesOf("|s0d0 1 1", "|t0s1 2 2", "!|s0|s1|d0t0 3 3", "t2 4 0"),
		clausesOf("|s0d0 1 1", "0 4 -", "|t0s1 2 2", "!|s0|s1|d0t0 3 3", "t2 4 0"),
		clausesOf("s0 0 -", "s1 0 -", "|s2s3 0 -", "|t0d3 4 -"),
	}
}

// namedClauses is the lists that the document's definitions single out.
func namedClauses() [][]impl.Clause {
	l := [][]impl.Clause{
		nil,
		{},
		clausesOf("1 3 -"),
		clausesOf("1 0 2"),
		clausesOf("0 3 -"),
		clausesOf("0 3 1", "0 2 -"),
		clausesOf("&s1d1 2 3", "s1 0 -", "1 4 -"),
		clausesOf("1 4 -", "s1 0 -", "&s1d1 2 3"),
		clausesOf("s1 2 0", "d1 3 1"),
		clausesOf("d1 3 1", "s1 2 0"),
		clausesOf("s1 2 0", "d1 2 1", "t1 2 2"),
		clausesOf("s1 2 -", "d1 3 -", "t1 4 -"),
		clausesOf("s1 2 -", "s1 2 -", "s1 2 -"),
		clausesOf("s0 1 0", "s1 2 1", "s2 3 2", "s3 4 3"),
		clausesOf("&s1&d2t3 4 0", "!&s1&d2t3 1 -"),
		clausesOf("|s1d2 0 3", "!t0 4 -", "d3 3 1"),
		clausesOf("t0 1 3", "t1 1 2", "t2 1 1", "t3 1 0"),
		clausesOf("!!!!!!!!!!!!!!s1 1 -", "&0&0&0&0&0&0&0s1 2 -", "|1|1|1|1|1|1|1t3 3 -"),
		clausesOf("s0 1 -", "d0 2 -", "t0 3 -", "s1 4 0", "d1 0 1", "t1 1 2"),
		clausesOf("0 1 -", "0 1 -", "0 1 -", "0 1 -", "0 1 -", "t1 1 2"),
	}
	return slices.Concat(l, coveredClauses(), fullClauses(), overfullClauses())
}

// drawnClauses is lists of each length up to ClauseMax drawn by a fixed seed, with short conditions and with long ones.
func drawnClauses(count int, seed uint64) [][]impl.Clause {
	draw, signs := rand.New(rand.NewPCG(seed, 13)), signPreds()
	var l [][]impl.Clause
	for i := range count {
		longest := 2 + draw.IntN(15)
		var list []impl.Clause
		for range 1 + i%6 {
			p := drawPred(draw, signs, 1+draw.IntN(longest))
			list = append(list, impl.Clause{Pred: p.text, Out: draw.IntN(5), Tag: draw.IntN(5) - 1})
		}
		l = append(l, list)
	}
	return l
}

// someClauses is named and drawn lists.
func someClauses() [][]impl.Clause {
	return append(namedClauses(), drawnClauses(120, 1)...)
}

// clausesWithFaults is invalid clauses: each has one part that is wrong.
func clausesWithFaults() []impl.Clause {
	var l []impl.Clause
	for _, text := range noPreds() {
		l = append(l, impl.Clause{Pred: text, Out: 1, Tag: -1})
	}
	for _, pred := range []string{"1", "0", "s1"} {
		for _, out := range ruleNumbers(0, impl.OutMax) {
			l = append(l, impl.Clause{Pred: pred, Out: out, Tag: -1})
		}
		for _, tag := range ruleNumbers(-1, impl.FieldMax) {
			l = append(l, impl.Clause{Pred: pred, Out: 1, Tag: tag}, impl.Clause{Pred: pred, Out: 0, Tag: tag})
		}
	}
	return l
}

// noClauses is lists that are not valid: too many clauses, or an invalid one at the first, a middle or the last place, also behind one that handles every header.
func noClauses() [][]impl.Clause {
	six := clausesOf("1 3 -", "s1 2 1", "d1 0 -", "t1 4 0", "|s1d2 1 2", "0 2 3")
	l := [][]impl.Clause{
		{{}},
		{{}, {}},
		append(slices.Clone(six), six[0]),
		append(slices.Clone(six), impl.Clause{Pred: "0"}),
		append(slices.Clone(six), impl.Clause{}),
		slices.Repeat(clausesOf("0 0 -"), 7),
		slices.Repeat(clausesOf("1 3 -"), 7),
		slices.Repeat(clausesOf("s1 1 -"), 8),
		slices.Repeat(clausesOf("1 3 -"), 12),
		slices.Repeat(clausesOf("0 0 -"), 6000),
	}
	for _, no := range clausesWithFaults() {
		for _, length := range []int{1, 3, 6} {
			for at := range length {
				list := slices.Clone(six[:length])
				list[at] = no
				l = append(l, list)
			}
		}
	}
	return l
}

func TestClausesLimits(t *testing.T) {
	if impl.ClauseMax != 6 {
		t.Errorf("ClauseMax is %d", impl.ClauseMax)
	}
	for count, text := range countPreds {
		if got := len(wantSpace(predSet(text))); !predText(text) || got != count {
			t.Errorf("%q has %d patterns, not %d", text, got, count)
		}
	}
	for _, p := range somePreds() {
		if predSet(p.text) != p.set {
			t.Fatalf("the headers of %q are not %b", p.text, p.set)
		}
	}
	for _, l := range fullClauses() {
		if len(wantClauseRules(l)) != 48 {
			t.Errorf("%v has %d rules", l, len(wantClauseRules(l)))
		}
	}
	for _, l := range overfullClauses() {
		if len(wantClauseRules(l)) <= 48 {
			t.Errorf("%v has %d rules", l, len(wantClauseRules(l)))
		}
	}
	for _, l := range coveredClauses() {
		sets := predSets(l)
		last := sets[len(l)-1]
		if slices.Contains(wantClauseAt(l), len(l)-1) || last == 0 || slices.ContainsFunc(sets[:len(l)-1], func(set uint64) bool { return last&^set == 0 }) {
			t.Errorf("the last clause of %v is not covered by several", l)
		}
	}
}

// What the lists have to contain, so that the tests below mean something.
func TestClausesLimitsDrawn(t *testing.T) {
	var held [4]int
	overfull := 0
	for _, l := range drawnClauses(120, 1) {
		countHeld(&held, predSets(l))
		if len(wantClauseRules(l)) > 48 {
			overfull++
		}
	}
	if held[2] < 500 || held[3] < 500 || held[0] < 500 || overfull > 20 {
		t.Errorf("%v headers by the number of their clauses; %d lists with too many rules", held, overfull)
	}
}

// countHeld counts the headers by how many of some sets they are in, those of more than three with those of three.
func countHeld(held *[4]int, sets []uint64) {
	for n := range 64 {
		in := 0
		for _, set := range sets {
			in += int(set >> n & 1)
		}
		held[min(in, 3)]++
	}
}

// spoiltPreds is texts that are no conditions, some of them for what is added to a condition or missing from it.
func spoiltPreds(text string) []string {
	return []string{"", text + "1", text[:len(text)-1], "s4", "2", strings.Repeat("!", 16) + "1"}
}

// checkClausesDo compares ClausesDo of every header with what is wanted.
func checkClausesDo(t *testing.T, l []impl.Clause, want []effect) {
	t.Helper()
	for n, h := range validHeads() {
		if g, out := impl.ClausesDo(l, h); g != want[n].head || out != want[n].out {
			t.Fatalf("ClausesDo(%v, %v) is %v, %d", l, h, g, out)
		}
	}
}

// Promise 59.
func TestClausesDoEach(t *testing.T) {
	for _, l := range someClauses() {
		checkClausesDo(t, l, wantClausesDo(l))
	}
}

// Promise 59, in its own words.
func TestClausesDoFirst(t *testing.T) {
	for _, l := range someClauses() {
		for _, h := range validHeads() {
			g, out := impl.ClausesDo(l, h)
			want, port := h, 0
			if at := slices.IndexFunc(l, func(c impl.Clause) bool { return impl.PredHas(c.Pred, h) }); at >= 0 {
				port = l[at].Out
				if l[at].Tag != -1 {
					want, _ = impl.HeadTag(h, l[at].Tag)
				}
			}
			if g != want || out != port {
				t.Fatalf("ClausesDo(%v, %v) is %v, %d", l, h, g, out)
			}
		}
	}
}

func TestClausesDoCases(t *testing.T) {
	l := clausesOf("&s0d0 0 2", "s0 3 1", "&s1t1 0 -", "&s1!t0 4 3", "&s2t2 2 -")
	for _, c := range []struct {
		h    impl.Head
		want effect
	}{
		// A clause of port 0 replaces the tag too.
		{impl.Head{Src: 0, Dst: 0, Tag: 1}, effect{impl.Head{Src: 0, Dst: 0, Tag: 2}, 0}},
		{impl.Head{Src: 0, Dst: 0, Tag: 2}, effect{impl.Head{Src: 0, Dst: 0, Tag: 2}, 0}},
		{impl.Head{Src: 1, Dst: 3, Tag: 1}, effect{impl.Head{Src: 1, Dst: 3, Tag: 1}, 0}},
		{impl.Head{Src: 0, Dst: 1, Tag: 0}, effect{impl.Head{Src: 0, Dst: 1, Tag: 1}, 3}},
		{impl.Head{Src: 1, Dst: 1, Tag: 2}, effect{impl.Head{Src: 1, Dst: 1, Tag: 3}, 4}},
		{impl.Head{Src: 2, Dst: 1, Tag: 2}, effect{impl.Head{Src: 2, Dst: 1, Tag: 2}, 2}},
		// No condition holds for these.
		{impl.Head{Src: 1, Dst: 1, Tag: 0}, effect{impl.Head{Src: 1, Dst: 1, Tag: 0}, 0}},
		{impl.Head{Src: 2, Dst: 1, Tag: 3}, effect{impl.Head{Src: 2, Dst: 1, Tag: 3}, 0}},
		{impl.Head{Src: 3, Dst: 3, Tag: 3}, effect{impl.Head{Src: 3, Dst: 3, Tag: 3}, 0}},
	} {
		if g, out := impl.ClausesDo(l, c.h); g != c.want.head || out != c.want.out {
			t.Errorf("ClausesDo(%v) is %v, %d", c.h, g, out)
		}
	}
}

// Every port and every tag, alone, behind a clause that holds for nothing, and before one that holds for everything.
func TestClausesDoActions(t *testing.T) {
	for out := 0; out <= 4; out++ {
		for tag := -1; tag <= 3; tag++ {
			c := impl.Clause{Pred: "|s1t2", Out: out, Tag: tag}
			for _, l := range [][]impl.Clause{{c}, {{Pred: "0", Out: 4, Tag: 3}, c}, {c, {Pred: "1", Out: 3, Tag: 2}}} {
				checkClausesDo(t, l, wantClausesDo(l))
			}
		}
	}
}

func TestClausesInvalidHeads(t *testing.T) {
	for _, l := range [][]impl.Clause{nil, clausesOf("1 3 -"), clausesOf("1 3 2"), clausesOf("s1 2 1", "!s1 4 -"), clausesOf("0 1 -")} {
		for _, h := range invalidHeads() {
			if g, out := impl.ClausesDo(l, h); g != (impl.Head{}) || out != 0 {
				t.Fatalf("ClausesDo(%v, %v) is %v, %d", l, h, g, out)
			}
		}
	}
}

// orders is every order of some clauses.
func orders(l []impl.Clause) [][]impl.Clause {
	if len(l) == 0 {
		return [][]impl.Clause{nil}
	}
	var all [][]impl.Clause
	for i, c := range l {
		rest := slices.Delete(slices.Clone(l), i, i+1)
		for _, order := range orders(rest) {
			all = append(all, append([]impl.Clause{c}, order...))
		}
	}
	return all
}

// A header of two clauses, and of three: the first one handles it, in every order, and so do the tables.
func TestClausesHeadOfTwo(t *testing.T) {
	h := impl.Head{Src: 1, Dst: 2, Tag: 3}
	for _, l := range [][]impl.Clause{
		clausesOf("s1 2 -", "d2 3 -"),
		clausesOf("s1 2 0", "d2 2 1"),
		clausesOf("s1 2 -", "s1 2 1"),
		clausesOf("s1 0 0", "1 4 1"),
		clausesOf("&s1d2 0 -", "!s0 1 -"),
		clausesOf("s1 2 -", "d2 3 -", "t3 4 -"),
		clausesOf("s1 2 0", "d2 2 1", "t3 2 2"),
		clausesOf("&s1&d2t3 0 1", "|s1t0 1 2", "1 4 0"),
		clausesOf("s1 0 0", "s1 0 1", "s1 4 -"),
	} {
		for _, order := range orders(l) {
			want := wantClauseDo(order[0], h)
			if g, out := impl.ClausesDo(order, h); g != want.head || out != want.out {
				t.Errorf("ClausesDo(%v, %v) is %v, %d", order, h, g, out)
			}
			table, _ := impl.ClausesTable(order)
			least, _ := impl.ClausesLeast(order)
			for _, made := range [][]impl.Rule{table, least} {
				if g, out := impl.TableDo(made, h); g != want.head || out != want.out {
					t.Errorf("TableDo(%v, %v) is %v, %d", made, h, g, out)
				}
			}
			checkClausesDo(t, order, wantClausesDo(order))
		}
	}
}

// Promise 60.
func TestClausesTableDo(t *testing.T) {
	tried := 0
	for _, l := range someClauses() {
		table, ok := impl.ClausesTable(l)
		if !ok {
			continue
		}
		tried++
		want := wantClausesDo(l)
		for n, h := range validHeads() {
			g, out := impl.ClausesDo(l, h)
			k, port := impl.TableDo(table, h)
			if g != k || out != port || k != want[n].head || port != want[n].out {
				t.Fatalf("ClausesDo(%v, %v) is %v, %d, and TableDo %v, %d", l, h, g, out, k, port)
			}
		}
	}
	if tried < 120 {
		t.Errorf("%d lists have a table", tried)
	}
}

// checkClausesTable compares ClausesTable and ClausesLeast with what the document says of them.
func checkClausesTable(t *testing.T, l []impl.Clause) {
	t.Helper()
	want := wantClauseRules(l)
	wantOk := len(want) <= 48
	if !wantOk {
		want = nil
	}
	if table, ok := impl.ClausesTable(l); ok != wantOk || !slices.Equal(table, want) {
		t.Fatalf("ClausesTable(%v) is %v, %v", l, table, ok)
	}
	if least, ok := impl.ClausesLeast(l); ok != wantOk || !slices.Equal(least, wantTrim(want)) {
		t.Fatalf("ClausesLeast(%v) is %v, %v", l, least, ok)
	}
}

// Promises 61 and 62: the whole tables.
func TestClausesTableEach(t *testing.T) {
	for _, l := range someClauses() {
		checkClausesTable(t, l)
	}
	for _, p := range drawnPreds(1, 16, 40, 13) {
		checkClausesTable(t, []impl.Clause{{Pred: p.text, Out: 2, Tag: -1}})
	}
}

// Promise 61, in its own words.
func TestClausesTablePrios(t *testing.T) {
	for _, l := range someClauses() {
		table, ok := impl.ClausesTable(l)
		if !ok {
			continue
		}
		if !impl.TableOk(table) {
			t.Fatalf("ClausesTable(%v) is %v", l, table)
		}
		rules := 0
		for i, c := range l {
			var patterns []string
			for _, r := range table {
				if r.Prio != 9-i {
					continue
				}
				patterns = append(patterns, r.Match)
				if r.Out != c.Out || r.Tag != c.Tag {
					t.Fatalf("ClausesTable(%v) has %v", l, r)
				}
			}
			slices.Sort(patterns)
			space := impl.PredSpace(c.Pred)
			slices.Sort(space)
			if !slices.Equal(patterns, space) {
				t.Fatalf("ClausesTable(%v) has, for clause %d, %q", l, i, patterns)
			}
			rules += len(patterns)
		}
		if rules != len(table) {
			t.Fatalf("ClausesTable(%v) has %d rules, of which %d are of a clause", l, len(table), rules)
		}
	}
}

func TestClausesTableCases(t *testing.T) {
	for _, c := range []struct {
		clauses, table, least []string
	}{
		{nil, nil, nil},
		{[]string{"0 3 -"}, nil, nil},
		{[]string{"1 3 -"}, []string{"9 xxxxxx 3 -"}, []string{"9 xxxxxx 3 -"}},
		{[]string{"0 3 -", "1 3 0"}, []string{"8 xxxxxx 3 0"}, []string{"8 xxxxxx 3 0"}},
		{[]string{"&s1!d2 0 2"}, []string{"9 010xxx 0 2", "9 0111xx 0 2"}, []string{"9 010xxx 0 2", "9 0111xx 0 2"}},
		{
			[]string{"&s1d1 2 3", "s1 0 -", "1 4 -"},
			[]string{"9 0101xx 2 3", "8 01xxxx 0 -", "7 xxxxxx 4 -"},
			[]string{"9 0101xx 2 3", "8 01xxxx 0 -", "7 xxxxxx 4 -"},
		},
		{
			[]string{"1 4 -", "s1 0 -", "&s1d1 2 3"},
			[]string{"9 xxxxxx 4 -", "8 01xxxx 0 -", "7 0101xx 2 3"},
			[]string{"9 xxxxxx 4 -"},
		},
		// One of the two rules of a clause is left.
		{
			[]string{"s0 1 -", "!s1 2 -"},
			[]string{"9 00xxxx 1 -", "8 00xxxx 2 -", "8 1xxxxx 2 -"},
			[]string{"9 00xxxx 1 -", "8 1xxxxx 2 -"},
		},
		{
			[]string{"t0 1 -", "t1 1 -", "t2 1 -", "t3 1 -", "s0 1 -", "s1 1 -"},
			[]string{"9 xxxx00 1 -", "8 xxxx01 1 -", "7 xxxx10 1 -", "6 xxxx11 1 -", "5 00xxxx 1 -", "4 01xxxx 1 -"},
			[]string{"9 xxxx00 1 -", "8 xxxx01 1 -", "7 xxxx10 1 -", "6 xxxx11 1 -"},
		},
	} {
		l := clausesOf(c.clauses...)
		if table, ok := impl.ClausesTable(l); !ok || !slices.Equal(table, rulesOf(c.table...)) {
			t.Errorf("ClausesTable(%v) is %v, %v", l, table, ok)
		}
		if least, ok := impl.ClausesLeast(l); !ok || !slices.Equal(least, rulesOf(c.least...)) {
			t.Errorf("ClausesLeast(%v) is %v, %v", l, least, ok)
		}
	}
}

// Every number of rules about TableMax: with 48 there is a table, with one more there is none.
func TestClausesTableBounds(t *testing.T) {
	for _, l := range fullClauses() {
		if table, ok := impl.ClausesTable(l); !ok || len(table) != 48 || !impl.ClausesFit(l, table) {
			t.Errorf("ClausesTable(%v) is %v, %v", l, table, ok)
		}
		if least, ok := impl.ClausesLeast(l); !ok || len(least) == 0 || !impl.ClausesFit(l, least) {
			t.Errorf("ClausesLeast(%v) is %v, %v", l, least, ok)
		}
	}
	for _, l := range overfullClauses() {
		if table, ok := impl.ClausesTable(l); ok || len(table) != 0 {
			t.Errorf("ClausesTable(%v) is %v, %v", l, table, ok)
		}
		// Also where few of the rules would handle a header.
		if least, ok := impl.ClausesLeast(l); ok || len(least) != 0 {
			t.Errorf("ClausesLeast(%v) is %v, %v", l, least, ok)
		}
	}
	for first := range 15 {
		for last := range 15 {
			checkClausesTable(t, countClauses(first, 14, last, 14))
			checkClausesTable(t, countClauses(first, 7, 7, 7, 7, last))
		}
	}
}

// A list without a table is a list all the same.
func TestClausesOverfull(t *testing.T) {
	for _, l := range overfullClauses() {
		checkClausesOk(t, l, true)
		checkClausesDo(t, l, wantClausesDo(l))
		rules := wantTrim(wantClauseRules(l))
		if len(rules) <= 48 && !impl.ClausesFit(l, rules) {
			t.Errorf("ClausesFit(%v, %v) is false", l, rules)
		}
	}
}

// Promise 62.
func TestClausesLeastEach(t *testing.T) {
	fewer := 0
	for _, l := range someClauses() {
		table, tableOk := impl.ClausesTable(l)
		least, ok := impl.ClausesLeast(l)
		if ok != tableOk || len(least) > len(table) || !impl.TableOk(least) || !impl.TableSame(table, least) || !slices.Equal(least, impl.TableTrim(table)) {
			t.Fatalf("ClausesLeast(%v) is %v, %v", l, least, ok)
		}
		if len(least) < len(table) {
			fewer++
		}
		for at, r := range least {
			if len(impl.TableArea(least, at)) == 0 || !slices.Contains(table, r) {
				t.Fatalf("ClausesLeast(%v) has %v", l, r)
			}
		}
		for n, want := range wantClausesDo(l) {
			if g, out := impl.TableDo(least, validHeads()[n]); ok && (g != want.head || out != want.out) {
				t.Fatalf("ClausesLeast(%v) is %v, which makes %v, %d of %v", l, least, g, out, validHeads()[n])
			}
		}
	}
	if fewer < 30 {
		t.Errorf("%d lists have rules that handle no header", fewer)
	}
}

// A clause that only earlier ones together cover has its rules in ClausesTable and none in ClausesLeast.
func TestClausesLeastCovered(t *testing.T) {
	for _, l := range coveredClauses() {
		last := 9 - (len(l) - 1)
		table, tableOk := impl.ClausesTable(l)
		least, leastOk := impl.ClausesLeast(l)
		of := func(rules []impl.Rule) int {
			count := 0
			for _, r := range rules {
				if r.Prio == last {
					count++
				}
			}
			return count
		}
		if want := len(wantSpace(predSet(l[len(l)-1].Pred))); !tableOk || of(table) != want {
			t.Errorf("ClausesTable(%v) is %v, %v", l, table, tableOk)
		}
		if !leastOk || of(least) != 0 {
			t.Errorf("ClausesLeast(%v) is %v, %v", l, least, leastOk)
		}
		if without, ok := impl.ClausesLeast(l[:len(l)-1]); !ok || !slices.Equal(without, least) {
			t.Errorf("ClausesLeast(%v) is %v, %v", l[:len(l)-1], without, ok)
		}
	}
}

// checkFit compares ClausesFit with what the document says of it, and says which it is.
func checkFit(t *testing.T, l []impl.Clause, table []impl.Rule) bool {
	t.Helper()
	want := wantFit(l, table)
	if impl.ClausesFit(l, table) != want {
		t.Fatalf("ClausesFit(%v, %v) is %v", l, table, !want)
	}
	return want
}

// Promise 63, for lists and tables that have nothing to do with each other.
func TestClausesFitPairs(t *testing.T) {
	tables := append(namedTables(), drawnTables(11, 63)...)
	for _, l := range append(namedClauses(), drawnClauses(24, 63)...) {
		for _, table := range tables {
			checkFit(t, l, table)
		}
	}
}

// Promise 63, for the tables of a list, and for tables that differ from them in one rule.
func TestClausesFitChanges(t *testing.T) {
	fit, unfit := 0, 0
	for _, l := range append(namedClauses(), drawnClauses(60, 64)...) {
		table, ok := impl.ClausesTable(l)
		least, _ := impl.ClausesLeast(l)
		if !ok {
			continue
		}
		if !checkFit(t, l, table) || !checkFit(t, l, least) {
			t.Fatalf("ClausesFit(%v, %v) is false", l, table)
		}
		for _, r := range table {
			for _, other := range []impl.Rule{
				{Prio: r.Prio, Match: r.Match, Out: (r.Out + 1) % 5, Tag: r.Tag},
				{Prio: r.Prio, Match: r.Match, Out: 0, Tag: r.Tag},
				{Prio: r.Prio, Match: r.Match, Out: r.Out, Tag: (r.Tag+2)%5 - 1},
				{Prio: 9, Match: r.Match, Out: r.Out, Tag: r.Tag},
				{Prio: 0, Match: r.Match, Out: r.Out, Tag: r.Tag},
			} {
				if checkFit(t, l, withRule(withoutRule(table, r), other)) {
					fit++
				} else {
					unfit++
				}
			}
			checkFit(t, l, withoutRule(table, r))
		}
	}
	if fit < 500 || unfit < 500 {
		t.Errorf("%d fit and %d do not", fit, unfit)
	}
}

// Promise 63: each header in turn is the one that differs, in the list or in the table.
func TestClausesFitOneHeader(t *testing.T) {
	for n, h := range validHeads() {
		match, other := headSigns(h), (h.Tag+1)%4
		rule := func(out int, tag int) []impl.Rule {
			return []impl.Rule{{Prio: 9, Match: match, Out: out, Tag: tag}, {Prio: 8, Match: "xxxxxx", Out: 3, Tag: -1}}
		}
		clause := func(out int, tag int) []impl.Clause {
			return []impl.Clause{{Pred: headPred(h), Out: out, Tag: tag}, {Pred: "1", Out: 3, Tag: -1}}
		}
		if predSet(headPred(h)) != 1<<n {
			t.Fatalf("%q holds for %b", headPred(h), predSet(headPred(h)))
		}
		for _, c := range []struct {
			l     []impl.Clause
			table []impl.Rule
			want  bool
		}{
			{clausesOf("1 3 -"), rule(3, -1), true},
			{clausesOf("1 3 -"), rule(3, h.Tag), true},
			{clausesOf("1 3 -"), rule(3, other), false},
			{clausesOf("1 3 -"), rule(2, -1), false},
			{clausesOf("1 3 -"), rule(0, -1), false},
			{clause(3, other), rulesOf("0 xxxxxx 3 -"), false},
			{clause(2, -1), rulesOf("0 xxxxxx 3 -"), false},
			{clause(0, -1), rulesOf("0 xxxxxx 3 -"), false},
			{clause(3, h.Tag), rulesOf("0 xxxxxx 3 -"), true},
			// The tag is no matter where the port is 0.
			{clause(0, other), rule(0, h.Tag), true},
			{clause(0, -1), rule(0, other), true},
			{clause(4, other), rule(4, other), true},
			{clause(4, other), rule(4, h.Tag), false},
			// Dropped by the one, and without a rule or a clause in the other.
			{clause(0, other)[:1], nil, true},
			{nil, rule(0, other)[:1], true},
			{clause(1, -1)[:1], nil, false},
			{nil, rule(1, -1)[:1], false},
		} {
			if impl.ClausesFit(c.l, c.table) != c.want {
				t.Fatalf("ClausesFit(%v, %v) is %v", c.l, c.table, !c.want)
			}
		}
	}
}

// A list or a table that is not valid, and both.
func TestClausesFitRejects(t *testing.T) {
	lists := [][]impl.Clause{nil, clausesOf("1 0 -"), clausesOf("1 3 -"), clausesOf("0 3 -")}
	tables := [][]impl.Rule{nil, rulesOf("9 xxxxxx 0 -"), rulesOf("9 xxxxxx 3 -")}
	noLists, noTables := noClauses(), noTables()
	for i, no := range noLists {
		for _, table := range tables {
			if impl.ClausesFit(no, table) {
				t.Fatalf("ClausesFit(%v, %v) is true", no, table)
			}
		}
		if table := noTables[i%len(noTables)]; impl.ClausesFit(no, table) {
			t.Fatalf("ClausesFit(%v, %v) is true", no, table)
		}
	}
	for _, no := range noTables {
		for _, l := range lists {
			if impl.ClausesFit(l, no) {
				t.Fatalf("ClausesFit(%v, %v) is true", l, no)
			}
		}
	}
	// What makes the same of each header, were it valid.
	for _, c := range []struct {
		l     []impl.Clause
		table []impl.Rule
	}{
		{slices.Repeat(clausesOf("1 3 -"), 7), rulesOf("9 xxxxxx 3 -")},
		{append(clausesOf("1 3 -"), impl.Clause{Pred: "2"}), rulesOf("9 xxxxxx 3 -")},
		{clausesOf("1 3 -"), append(rulesOf("9 xxxxxx 3 -"), impl.Rule{})},
		{clausesOf("1 3 -"), rulesOf("9 xxxxxx 3 -", "9 xxxxxx 3 -")},
		{clausesOf("1 3 -"), oneMatchRules(49, "xxxxxx")},
		{nil, []impl.Rule{{}}},
		{[]impl.Clause{{}}, nil},
		{[]impl.Clause{{}}, []impl.Rule{{}}},
	} {
		if impl.ClausesFit(c.l, c.table) {
			t.Errorf("ClausesFit(%v, %v) is true", c.l, c.table)
		}
	}
}

// Promise 64.
func TestClausesAppend(t *testing.T) {
	draw, signs := rand.New(rand.NewPCG(64, 13)), signPreds()
	changed, kept := 0, 0
	for _, l := range someClauses() {
		if len(l) == 6 {
			continue
		}
		more := clausesOf("1 4 2", "0 4 2", "|s1t2 0 1")
		for range 5 {
			p := drawPred(draw, signs, 1+draw.IntN(16))
			more = append(more, impl.Clause{Pred: p.text, Out: draw.IntN(5), Tag: draw.IntN(5) - 1})
		}
		at := wantClauseAt(l)
		for _, c := range more {
			longer := append(slices.Clone(l), c)
			set := predSet(c.Pred)
			for n, h := range validHeads() {
				g, out := impl.ClausesDo(l, h)
				want := effect{g, out}
				if at[n] == -1 && set>>n&1 == 1 {
					want = wantClauseDo(c, h)
					changed++
				} else {
					kept++
				}
				if k, port := impl.ClausesDo(longer, h); k != want.head || port != want.out {
					t.Fatalf("ClausesDo(%v, %v) is %v, %d", longer, h, k, port)
				}
			}
		}
	}
	if changed < 1000 || kept < 1000 {
		t.Errorf("%d headers changed and %d kept", changed, kept)
	}
}

func checkClausesOk(t *testing.T, l []impl.Clause, want bool) {
	t.Helper()
	if impl.ClausesOk(l) != want {
		t.Fatalf("ClausesOk(%.200q) is %v", fmt.Sprint(l), !want)
	}
}

// Promise 65: a list, and what is left of it without its last clauses, without its first, and without one.
func TestClausesOkParts(t *testing.T) {
	for _, l := range someClauses() {
		checkClausesOk(t, l, true)
		for i := range l {
			checkClausesOk(t, l[:i], true)
			checkClausesOk(t, l[i:], true)
			checkClausesOk(t, slices.Delete(slices.Clone(l), i, i+1), true)
		}
	}
}

// Promise 65: an invalid condition, port or tag at each place.
func TestClausesOkFaults(t *testing.T) {
	for _, l := range noClauses() {
		checkClausesOk(t, l, false)
	}
	for _, l := range append(namedClauses(), drawnClauses(30, 65)...) {
		for at := range l {
			for _, out := range []int{-1, impl.OutMax + 1, math.MinInt, math.MaxInt} {
				other := slices.Clone(l)
				other[at].Out = out
				checkClausesOk(t, other, false)
			}
			for _, tag := range []int{-2, impl.FieldMax + 1, math.MinInt, math.MaxInt} {
				other := slices.Clone(l)
				other[at].Tag = tag
				checkClausesOk(t, other, false)
			}
			for _, text := range spoiltPreds(l[at].Pred) {
				other := slices.Clone(l)
				other[at].Pred = text
				checkClausesOk(t, other, false)
			}
		}
	}
}

// The bounds: every number of clauses, every port and every tag.
func TestClausesOkBounds(t *testing.T) {
	for count := range 20 {
		for _, c := range clausesOf("1 3 -", "0 0 -", "&s1!d2 4 3") {
			checkClausesOk(t, slices.Repeat([]impl.Clause{c}, count), count <= 6)
		}
	}
	for out := -3; out <= 8; out++ {
		for tag := -4; tag <= 7; tag++ {
			want := out >= 0 && out <= 4 && tag >= -1 && tag <= 3
			c := impl.Clause{Pred: "|s1t2", Out: out, Tag: tag}
			for at := range 6 {
				checkClausesOk(t, slices.Insert(clausesOf("1 3 -", "s1 2 1", "0 1 -", "d1 0 -", "t1 4 0"), at, c), want)
			}
		}
	}
	for _, length := range []int{15, 16, 17} {
		text := strings.Repeat("!", length-1) + "1"
		checkClausesOk(t, []impl.Clause{{Pred: "1"}, {Pred: text}, {Pred: "1"}}, length <= 16)
	}
}

// Promise 66: every two consecutive clauses whose conditions have no header in common.
func TestClausesExchange(t *testing.T) {
	tried := 0
	lists := someClauses()
	for seed := range uint64(20) {
		lists = append(lists, drawnClauses(30, 660+seed)...)
	}
	for _, l := range lists {
		sets := predSets(l)
		for i := 1; i < len(l); i++ {
			if sets[i-1]&sets[i] != 0 {
				continue
			}
			tried++
			other := slices.Clone(l)
			other[i-1], other[i] = other[i], other[i-1]
			checkExchange(t, l, other)
		}
	}
	if tried < 300 {
		t.Errorf("%d exchanges", tried)
	}
}

// Promise 66, for conditions that hold for much: each condition and its negation, between others.
func TestClausesExchangeNot(t *testing.T) {
	for _, p := range drawnPreds(1, 15, 5, 66) {
		l := clausesOf("&s1d2 1 0", "1 2 -", "1 3 1", "t3 4 2")
		l[1].Pred, l[2].Pred = p.text, "!"+p.text
		checkExchange(t, l, []impl.Clause{l[0], l[2], l[1], l[3]})
	}
}

func checkExchange(t *testing.T, l []impl.Clause, other []impl.Clause) {
	t.Helper()
	for _, h := range validHeads() {
		g, out := impl.ClausesDo(l, h)
		if k, port := impl.ClausesDo(other, h); g != k || out != port {
			t.Fatalf("ClausesDo(%v, %v) is %v, %d, and of %v %v, %d", l, h, g, out, other, k, port)
		}
	}
	table, ok := impl.ClausesTable(l)
	exchanged, exchangedOk := impl.ClausesTable(other)
	if ok != exchangedOk || ok && (!impl.TableSame(table, exchanged) || !impl.ClausesFit(l, exchanged)) {
		t.Fatalf("ClausesTable(%v) is %v, and of %v %v", l, table, other, exchanged)
	}
}

// No clause, and a nil slice, for every function.
func TestClausesEmpty(t *testing.T) {
	for _, empty := range [][]impl.Clause{nil, {}, clausesOf("1 3 -", "s1 2 -")[:0]} {
		checkClausesOk(t, empty, true)
		for _, h := range validHeads() {
			if g, out := impl.ClausesDo(empty, h); g != h || out != 0 {
				t.Errorf("ClausesDo(empty, %v) is %v, %d", h, g, out)
			}
		}
		if table, ok := impl.ClausesTable(empty); !ok || len(table) != 0 {
			t.Errorf("ClausesTable(empty) is %v, %v", table, ok)
		}
		if least, ok := impl.ClausesLeast(empty); !ok || len(least) != 0 {
			t.Errorf("ClausesLeast(empty) is %v, %v", least, ok)
		}
		for _, table := range [][]impl.Rule{nil, {}, rulesOf("9 xxxxxx 0 2"), rulesOf("9 xxxxxx 0 -", "8 xxxxxx 3 -")} {
			if !impl.ClausesFit(empty, table) {
				t.Errorf("ClausesFit(empty, %v) is false", table)
			}
		}
		for _, table := range [][]impl.Rule{rulesOf("9 xxxxxx 1 -"), rulesOf("0 111111 4 -"), rulesOf("0 000000 1 -")} {
			if impl.ClausesFit(empty, table) {
				t.Errorf("ClausesFit(empty, %v) is true", table)
			}
		}
	}
}

// What is no valid list, for every function.
func TestClausesRejects(t *testing.T) {
	for _, no := range noClauses() {
		for _, h := range []impl.Head{{}, {Src: 1, Dst: 2, Tag: 3}, {Src: 3, Dst: 3, Tag: 3}, {Src: 4}, {Tag: -1}} {
			if g, out := impl.ClausesDo(no, h); g != (impl.Head{}) || out != 0 {
				t.Fatalf("ClausesDo(%v, %v) is %v, %d", no, h, g, out)
			}
		}
		if table, ok := impl.ClausesTable(no); ok || len(table) != 0 {
			t.Fatalf("ClausesTable(%v) is %v, %v", no, table, ok)
		}
		if least, ok := impl.ClausesLeast(no); ok || len(least) != 0 {
			t.Fatalf("ClausesLeast(%v) is %v, %v", no, least, ok)
		}
		if impl.ClausesFit(no, nil) || impl.ClausesFit(no, rulesOf("9 xxxxxx 3 -")) {
			t.Fatalf("ClausesFit(%v) is true", no)
		}
	}
}

// ownClauses is a copy of a list whose conditions have memory of their own, with space behind it that is filled too.
func ownClauses(l []impl.Clause) []impl.Clause {
	own := make([]impl.Clause, 0, len(l)+4)
	for _, c := range l {
		c.Pred = strings.Clone(c.Pred)
		own = append(own, c)
	}
	for i := range 4 {
		own = append(own, impl.Clause{Pred: "spare", Out: -7 - i, Tag: -7})
	}
	return own[:len(l)]
}

// meetsClauses is whether a slice of rules, up to its capacity, or a pattern of it has memory in common with a list.
func meetsClauses(rules []impl.Rule, l []impl.Clause) bool {
	for _, r := range rules {
		for _, c := range l {
			if bytesMeet(r.Match, c.Pred) {
				return true
			}
		}
	}
	if cap(rules) == 0 || cap(l) == 0 {
		return false
	}
	first, second := uintptr(unsafe.Pointer(unsafe.SliceData(rules))), uintptr(unsafe.Pointer(unsafe.SliceData(l)))
	return first < second+uintptr(cap(l))*unsafe.Sizeof(impl.Clause{}) && second < first+uintptr(cap(rules))*unsafe.Sizeof(impl.Rule{})
}

// The arguments are as they were, also behind the end of the slice, and no result shares memory with them or with another result.
func TestClausesOwnMemory(t *testing.T) {
	for _, kept := range someClauses() {
		l := ownClauses(kept)
		before := slices.Clone(l[:cap(l)])
		var results [][]impl.Rule
		for range 2 {
			table, _ := impl.ClausesTable(l)
			least, _ := impl.ClausesLeast(l)
			results = append(results, table, least)
		}
		for i, result := range results {
			if meetsClauses(result, l) {
				t.Fatalf("%v of %v shares memory with it", result, l)
			}
			for _, other := range results[:i] {
				if rulesMeet(result, other) {
					t.Fatalf("%v and %v of %v share memory", result, other, l)
				}
			}
			for j, r := range result {
				if slices.ContainsFunc(result[:j], func(q impl.Rule) bool { return bytesMeet(r.Match, q.Match) }) {
					t.Fatalf("two rules of %v share memory", result)
				}
			}
		}
		for _, result := range results {
			clear(result[:cap(result)])
		}
		if !slices.Equal(l[:cap(l)], before) {
			t.Fatalf("%v has become %v", before, l[:cap(l)])
		}
	}
}

// The other functions leave their arguments as they were.
func TestClausesArgumentsKept(t *testing.T) {
	for _, kept := range append(someClauses(), noClauses()[:30]...) {
		l, table := ownClauses(kept), ownTable(headRules(20))
		before, tableBefore := slices.Clone(l[:cap(l)]), slices.Clone(table[:cap(table)])
		impl.ClausesOk(l)
		impl.ClausesFit(l, table)
		for _, h := range validHeads() {
			impl.ClausesDo(l, h)
		}
		if !slices.Equal(l[:cap(l)], before) || !slices.Equal(table[:cap(table)], tableBefore) {
			t.Fatalf("%v and %v have become %v and %v", before, tableBefore, l, table)
		}
	}
}

// The same call many times in a row gives the same answer, whatever is done to an earlier result.
func TestClausesAgain(t *testing.T) {
	fit := clausesOf("&s1d1 2 3", "s1 0 -", "|d2t1 4 -")
	table := rulesOf("9 0101xx 2 3", "8 01xxxx 0 -", "7 xx10xx 4 -", "7 xxxx01 4 -")
	unfit := withRule(table, impl.Rule{Prio: 9, Match: "111001", Out: 4, Tag: 2})
	for range 2000 {
		if !impl.ClausesFit(fit, table) || impl.ClausesFit(fit, unfit) {
			t.Fatal("ClausesFit is another than before")
		}
	}
	for _, l := range [][]impl.Clause{fit, countClauses(8, 8, 8, 8, 8, 8), countClauses(14, 14, 14, 7)} {
		for range 50 {
			checkClausesTable(t, l)
			made, _ := impl.ClausesTable(l)
			least, _ := impl.ClausesLeast(l)
			clear(made)
			clear(least)
			checkClausesOk(t, l, true)
		}
		checkClausesDo(t, l, wantClausesDo(l))
	}
}

// Calls at the same time, with the same arguments, do not get in each other's way.
func TestClausesAtOnce(t *testing.T) {
	l := clausesOf("&s1d1 2 3", "s1 0 -", "1 4 -")
	table, _ := impl.ClausesTable(l)
	want := wantClausesDo(l)
	var wrong [8]string
	var wait sync.WaitGroup
	for i := range wrong {
		wait.Add(1)
		go func() {
			defer wait.Done()
			for n, h := range validHeads() {
				g, out := impl.ClausesDo(l, h)
				made, ok := impl.ClausesTable(l)
				least, leastOk := impl.ClausesLeast(l)
				if g != want[n].head || out != want[n].out || !ok || !leastOk || !slices.Equal(made, table) || !slices.Equal(least, table) {
					wrong[i] = fmt.Sprintf("ClausesDo(%v) is %v, %d, and the tables %v and %v", h, g, out, made, least)
				}
				if !impl.ClausesFit(l, table) || impl.ClausesFit(l, table[1:]) || impl.ClausesFit(l[1:], table) {
					wrong[i] = "ClausesFit is wrong"
				}
			}
		}()
	}
	wait.Wait()
	for _, text := range wrong {
		if text != "" {
			t.Error(text)
		}
	}
}

// No goroutine is left after the calls. One that has said that it is done may still have to end, so there is some patience.
func TestClausesGoroutinesEnd(t *testing.T) {
	before := runtime.NumGoroutine()
	l := clausesOf("s1 2 -", "1 4 -")
	for range 500 {
		impl.ClausesFit(l, rulesOf("9 01xxxx 2 -", "8 xxxxxx 4 -"))
		impl.ClausesFit(l, rulesOf("9 000000 2 -"))
		impl.ClausesFit(l, nil)
	}
	for range 10000 {
		if runtime.NumGoroutine() <= before {
			return
		}
		time.Sleep(time.Millisecond)
	}
	t.Errorf("%d goroutines, and %d before", runtime.NumGoroutine(), before)
}
