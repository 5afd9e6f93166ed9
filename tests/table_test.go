package tests

import (
	"math"
	"math/rand/v2"
	"slices"
	"strings"
	"testing"
	"unsafe"

	"loop.example/crossbuck/impl"
)

var matchSets = wildSets()

// lastRule is after every other rule, and firstRule is before every other.
var (
	lastRule  = impl.Rule{Prio: 0, Match: "xxxxxx", Out: 4, Tag: 3}
	firstRule = impl.Rule{Prio: 9, Match: "000000", Out: 0, Tag: -1}
)

// rulesOf is the rules of some texts of rules, in the order in which they stand.
func rulesOf(texts ...string) []impl.Rule {
	var l []impl.Rule
	for _, text := range texts {
		r, ok := impl.RuleRead(text)
		if !ok {
			panic("no rule: " + text)
		}
		l = append(l, r)
	}
	return l
}

// inOrder is the rules of a list, each once, in the order of the document.
func inOrder(l []impl.Rule) []impl.Rule {
	l = slices.Clone(l)
	slices.SortFunc(l, wantRuleCmp)
	return slices.Compact(l)
}

// withRule is a table with one rule more, and withoutRule is one without a rule of it.
func withRule(t []impl.Rule, r impl.Rule) []impl.Rule {
	return inOrder(append(slices.Clone(t), r))
}

func withoutRule(t []impl.Rule, r impl.Rule) []impl.Rule {
	return slices.DeleteFunc(slices.Clone(t), func(q impl.Rule) bool { return q == r })
}

// wantAt is TableAt of a table and the header of a number, by the document's definition.
func wantAt(t []impl.Rule, n int) int {
	for at, r := range t {
		if matchSets[r.Match]>>n&1 == 1 {
			return at
		}
	}
	return -1
}

// wantRuleDo is what a rule makes of a header that matches it.
func wantRuleDo(r impl.Rule, h impl.Head) (impl.Head, int) {
	if r.Tag >= 0 {
		h.Tag = r.Tag
	}
	return h, r.Out
}

// wantDo is TableDo of a table and the header of a number.
func wantDo(t []impl.Rule, n int) (impl.Head, int) {
	h := validHeads()[n]
	if at := wantAt(t, n); at >= 0 {
		return wantRuleDo(t[at], h)
	}
	return h, 0
}

// wantAreas is the headers that each rule handles, and those that none does.
func wantAreas(t []impl.Rule) ([]uint64, uint64) {
	areas := make([]uint64, len(t))
	var rest uint64
	for n := range 64 {
		if at := wantAt(t, n); at >= 0 {
			areas[at] |= 1 << n
		} else {
			rest |= 1 << n
		}
	}
	return areas, rest
}

// wantTrim is the rules that handle a header.
func wantTrim(t []impl.Rule) []impl.Rule {
	areas, _ := wantAreas(t)
	var l []impl.Rule
	for at, r := range t {
		if areas[at] != 0 {
			l = append(l, r)
		}
	}
	return l
}

// wantSame is TableSame of two tables.
func wantSame(a []impl.Rule, b []impl.Rule) bool {
	for n := range 64 {
		first, firstOut := wantDo(a, n)
		second, secondOut := wantDo(b, n)
		if firstOut != secondOut || firstOut != 0 && first != second {
			return false
		}
	}
	return true
}

// headRules is one rule for each of the first headers, which it alone matches.
func headRules(count int) []impl.Rule {
	var l []impl.Rule
	for n, w := range headList(allHeads)[:count] {
		l = append(l, impl.Rule{Prio: 5, Match: w, Out: n % 5, Tag: n%4 - 1})
	}
	return l
}

// stairRules is rules that leave one header to what comes after them.
func stairRules() []impl.Rule {
	return rulesOf("6 0xxxxx 1 -", "6 10xxxx 1 -", "6 110xxx 1 -", "6 1110xx 1 -", "6 11110x 1 -", "6 111110 1 -")
}

// oneMatchRules is as many rules with one and the same pattern, of which only the first handles a header.
func oneMatchRules(count int, match string) []impl.Rule {
	var l []impl.Rule
	for i := range count {
		l = append(l, impl.Rule{Prio: 8 - i/25, Match: match, Out: i / 5 % 5, Tag: i%5 - 1})
	}
	return l
}

// namedTables is the tables that the document's definitions single out.
func namedTables() [][]impl.Rule {
	stairs := stairRules()
	return [][]impl.Rule{
		nil,
		{},
		rulesOf("5 01xxxx 3 -"),
		rulesOf("9 xxxxxx 0 -"),
		rulesOf("9 xxxxxx 4 2"),
		{lastRule},
		{firstRule},
		{firstRule, lastRule},
		rulesOf("5 00xxxx 0 -", "3 xxxxxx 4 -", "1 01xxxx 2 -"),
		rulesOf("9 0xxxxx 1 -", "8 1xxxxx 2 -", "7 x1xxxx 3 -"),
		rulesOf("9 000000 1 -", "8 00000x 2 -", "7 0000xx 3 -", "6 000xxx 4 -", "5 00xxxx 0 1", "4 0xxxxx 1 2", "3 xxxxxx 2 3"),
		rulesOf("9 xxxxxx 2 3", "8 0xxxxx 1 2", "7 00xxxx 0 1", "6 000xxx 4 -", "5 0000xx 3 -", "4 00000x 2 -", "3 000000 1 -"),
		rulesOf("5 01xxxx 3 -", "5 01xxxx 3 0", "5 01xxxx 4 -"),
		rulesOf("9 0xxxxx 4 0", "0 0xxxxx 4 0"),
		rulesOf("7 x1x0xx 1 -", "7 x1x0xx 2 3", "6 0xxxx1 0 2", "6 xx11xx 0 -", "5 xxx01x 4 0", "5 xxx10x 4 1", "2 11xxxx 0 3"),
		append(slices.Clone(stairs), rulesOf("5 xxxxxx 2 -")...),
		append(slices.Clone(stairs), rulesOf("6 111111 1 -", "5 xxxxxx 2 -")...),
		headRules(47),
		headRules(48),
		append(headRules(47), lastRule),
		oneMatchRules(48, "xxxxxx"),
		oneMatchRules(48, "x0x1xx"),
	}
}

// drawnTables is tables of many lengths drawn by a fixed seed, with many "x" and with few, and with one Prio and with all.
func drawnTables(count int, seed uint64) [][]impl.Rule {
	draw := rand.New(rand.NewPCG(seed, 12))
	var l [][]impl.Rule
	for i := range count {
		length := []int{1, 2, 3, 5, 8, 13, 21, 30, 46, 47, 48}[i%11]
		free, prios := 1+draw.IntN(9), 1+draw.IntN(10)
		var table []impl.Rule
		for len(table) < length {
			table = withRule(table, drawRule(draw, free, prios))
		}
		l = append(l, table)
	}
	return l
}

// drawRule is a rule of one of the least Prios whose pattern has, of ten signs, so many "x".
func drawRule(draw *rand.Rand, free int, prios int) impl.Rule {
	w := make([]byte, 6)
	for j := range w {
		w[j] = '0' + byte(draw.IntN(2))
		if draw.IntN(10) < free {
			w[j] = 'x'
		}
	}
	return impl.Rule{Prio: draw.IntN(prios), Match: string(w), Out: draw.IntN(5), Tag: draw.IntN(5) - 1}
}

// someTables is named and drawn tables.
func someTables() [][]impl.Rule {
	return append(namedTables(), drawnTables(44, 1)...)
}

// noTables is lists that are no tables: too many rules, two of them exchanged, one of them twice, or an invalid one at the first, a middle or the last place.
func noTables() [][]impl.Rule {
	l := [][]impl.Rule{
		headRules(49),
		headRules(64),
		oneMatchRules(49, "xxxxxx"),
		append(headRules(48), lastRule),
		append(headRules(48), impl.Rule{}),
		slices.Repeat([]impl.Rule{lastRule}, 48),
		{firstRule, firstRule},
		{lastRule, firstRule},
		rulesOf("4 01xxxx 3 -", "5 01xxxx 3 -"),
		rulesOf("5 01xxxx 3 -", "5 00xxxx 3 -"),
		rulesOf("5 01xxxx 3 -", "5 01xxxx 2 -"),
		rulesOf("5 01xxxx 3 0", "5 01xxxx 3 -"),
		rulesOf("5 01xxxx 3 -", "4 01xxxx 3 -", "5 01xxxx 3 -"),
	}
	good := rulesOf("7 0xxxxx 3 -", "5 01xxxx 1 2", "5 1xxxxx 2 -", "1 xxxxxx 0 -")
	for _, no := range noRules() {
		l = append(l, []impl.Rule{no}, []impl.Rule{no, no})
		for at := range len(good) + 1 {
			l = append(l, slices.Insert(slices.Clone(good), at, no))
		}
	}
	for at := range 48 {
		for _, no := range rulesWithFaults() {
			full := headRules(48)
			full[at] = no
			l = append(l, full)
		}
	}
	return l
}

// rulesWithFaults is one invalid rule for each field.
func rulesWithFaults() []impl.Rule {
	return []impl.Rule{{Prio: 10, Match: "xxxxxx"}, {Prio: -1, Match: "xxxxxx"}, {Match: "xxxxx"}, {Match: "xxxxxx", Out: 5}, {Match: "xxxxxx", Tag: 4}, {}}
}

// otherRules is rules that are before all rules of a table, after all, and between.
func otherRules() []impl.Rule {
	l := append(rulesOf("9 000000 0 0", "9 xxxxxx 4 3", "5 01xxxx 3 -", "5 xxxxxx 2 1", "4 0x1x0x 1 0", "0 000000 0 -", "0 xxxxxx 4 2"), firstRule, lastRule)
	draw := rand.New(rand.NewPCG(44, 12))
	for range 12 {
		l = append(l, drawRule(draw, 1+draw.IntN(9), 10))
	}
	return l
}

func TestTableLimits(t *testing.T) {
	if impl.TableMax != 48 {
		t.Errorf("TableMax is %d", impl.TableMax)
	}
	full, idle, together := 0, 0, 0
	for _, table := range someTables() {
		if len(table) > 48 || !slices.Equal(table, inOrder(table)) {
			t.Errorf("%v is no table", table)
		}
		if len(table) == 48 {
			full++
		}
		areas, _ := wantAreas(table)
		for at, area := range areas {
			if area != 0 {
				continue
			}
			idle++
			if !slices.ContainsFunc(table[:at], func(r impl.Rule) bool { return impl.WildIn(table[at].Match, r.Match) }) {
				together++
			}
		}
	}
	if full < 5 || idle < 100 || together < 10 {
		t.Errorf("%d full tables; %d rules that handle nothing, %d of them by several rules together", full, idle, together)
	}
}

// Promise 56: a table, and what is left of it without its last rules, without its first, and without one.
func TestTableOkParts(t *testing.T) {
	for _, table := range someTables() {
		checkTableOk(t, table, true)
		for i := range table {
			checkTableOk(t, table[:i], true)
			checkTableOk(t, table[i:], true)
			checkTableOk(t, withoutRule(table, table[i]), true)
		}
	}
}

// Promise 56: every two rules exchanged, and every rule repeated at every place.
func TestTableOkChanges(t *testing.T) {
	for _, table := range someTables() {
		for i, r := range table {
			for j := range i {
				other := slices.Clone(table)
				other[i], other[j] = other[j], other[i]
				checkTableOk(t, other, false)
			}
			for j := range len(table) + 1 {
				checkTableOk(t, slices.Insert(slices.Clone(table), j, r), false)
			}
			for j := range table {
				other := slices.Clone(table)
				other[j] = r
				checkTableOk(t, other, i == j)
			}
		}
	}
}

// The bounds, and what is no table for any other reason.
func TestTableOkBounds(t *testing.T) {
	for count := range 65 {
		checkTableOk(t, headRules(count), count <= 48)
		checkTableOk(t, oneMatchRules(count, "xxxxxx"), count <= 48)
	}
	checkTableOk(t, inOrder(someRules()), false)
	for _, no := range noTables() {
		checkTableOk(t, no, false)
	}
	for _, table := range someTables() {
		for _, no := range rulesWithFaults() {
			for at := range table {
				other := slices.Clone(table)
				other[at] = no
				checkTableOk(t, other, false)
				checkTableOk(t, slices.Insert(slices.Clone(table), at, no), false)
			}
			checkTableOk(t, append(slices.Clone(table), no), false)
		}
	}
}

func checkTableOk(t *testing.T, table []impl.Rule, want bool) {
	t.Helper()
	if impl.TableOk(table) != want {
		t.Fatalf("TableOk(%v) is %v", table, !want)
	}
}

// checkPut compares TablePut and TableDrop of a rule with what the document says of them (promises 44 and 45).
func checkPut(t *testing.T, table []impl.Rule, r impl.Rule) {
	t.Helper()
	has := slices.Contains(table, r)
	put, putOk := impl.TablePut(table, r)
	wantPut := table
	if !has && len(table) < 48 {
		wantPut = withRule(table, r)
	}
	if putOk != (!has && len(table) < 48) || !slices.Equal(put, wantPut) {
		t.Fatalf("TablePut(%v, %v) is %v, %v", table, r, put, putOk)
	}
	if back, ok := impl.TableDrop(put, r); putOk && (!ok || !slices.Equal(back, table)) {
		t.Fatalf("TableDrop(%v, %v) is %v, %v", put, r, back, ok)
	}
	dropped, dropOk := impl.TableDrop(table, r)
	if dropOk != has || !slices.Equal(dropped, withoutRule(table, r)) {
		t.Fatalf("TableDrop(%v, %v) is %v, %v", table, r, dropped, dropOk)
	}
	if back, ok := impl.TablePut(dropped, r); dropOk && (!ok || !slices.Equal(back, table)) {
		t.Fatalf("TablePut(%v, %v) is %v, %v", dropped, r, back, ok)
	}
}

// Promises 44 and 45, for rules that a table has and that it has not.
func TestTablePutEach(t *testing.T) {
	for _, table := range someTables() {
		for _, r := range table {
			checkPut(t, table, r)
			checkPut(t, withoutRule(table, r), r)
			checkPut(t, table, impl.Rule{Prio: 9 - r.Prio, Match: r.Match, Out: r.Out, Tag: r.Tag})
			checkPut(t, table, impl.Rule{Prio: r.Prio, Match: r.Match, Out: (r.Out + 1) % 5, Tag: r.Tag})
			checkPut(t, table, impl.Rule{Prio: r.Prio, Match: r.Match, Out: r.Out, Tag: (r.Tag+2)%5 - 1})
		}
		for _, r := range otherRules() {
			checkPut(t, table, r)
		}
	}
}

// Promise 44: one rule after the other, in several orders, up to a full table.
func TestTablePutAll(t *testing.T) {
	draw := rand.New(rand.NewPCG(4, 12))
	for _, want := range someTables() {
		rules := slices.Clone(want)
		for range 3 {
			var table []impl.Rule
			for _, r := range rules {
				put, ok := impl.TablePut(table, r)
				if !ok || !impl.TableOk(put) || len(put) != len(table)+1 {
					t.Fatalf("TablePut(%v, %v) is %v, %v", table, r, put, ok)
				}
				table = put
			}
			if !slices.Equal(table, want) {
				t.Fatalf("TablePut of all of %v is %v", rules, table)
			}
			draw.Shuffle(len(rules), func(i int, j int) { rules[i], rules[j] = rules[j], rules[i] })
		}
	}
}

// A full table: of a rule that it has, of one that it has not, and of an invalid one.
func TestTablePutFull(t *testing.T) {
	for _, full := range [][]impl.Rule{headRules(48), oneMatchRules(48, "xxxxxx"), append(headRules(47), lastRule)} {
		for _, r := range append(slices.Clone(full), otherRules()...) {
			if put, ok := impl.TablePut(full, r); ok || !slices.Equal(put, full) {
				t.Fatalf("TablePut(%v, %v) is %v, %v", full, r, put, ok)
			}
		}
		for _, r := range noRules() {
			checkNoTable(t, full, r)
		}
		for _, r := range full {
			less, ok := impl.TableDrop(full, r)
			if !ok || !slices.Equal(less, withoutRule(full, r)) {
				t.Fatalf("TableDrop(%v, %v) is %v, %v", full, r, less, ok)
			}
			checkPut(t, less, lastRule)
		}
	}
}

// An invalid rule is put into no table and taken out of none.
func TestTablePutInvalid(t *testing.T) {
	for _, table := range [][]impl.Rule{nil, {}, {firstRule}, rulesOf("5 00xxxx 0 -", "3 xxxxxx 4 -", "1 01xxxx 2 -"), headRules(47)} {
		for _, r := range noRules() {
			checkNoTable(t, table, r)
		}
	}
}

// checkNoTable is for arguments with which TablePut and TableDrop have an empty table and false.
func checkNoTable(t *testing.T, table []impl.Rule, r impl.Rule) {
	t.Helper()
	if put, ok := impl.TablePut(table, r); ok || len(put) != 0 {
		t.Fatalf("TablePut(%v, %v) is %v, %v", table, r, put, ok)
	}
	if dropped, ok := impl.TableDrop(table, r); ok || len(dropped) != 0 {
		t.Fatalf("TableDrop(%v, %v) is %v, %v", table, r, dropped, ok)
	}
}

// Promise 46, also where there is no space for both.
func TestTablePutTwo(t *testing.T) {
	others := otherRules()
	for _, table := range someTables() {
		for i, a := range others {
			for _, b := range others[:i+1] {
				checkPutTwo(t, table, a, b)
			}
		}
	}
}

func checkPutTwo(t *testing.T, table []impl.Rule, a impl.Rule, b impl.Rule) {
	t.Helper()
	first, _ := impl.TablePut(table, a)
	first, firstOk := impl.TablePut(first, b)
	second, _ := impl.TablePut(table, b)
	second, secondOk := impl.TablePut(second, a)
	both := withRule(withRule(table, a), b)
	if len(both) <= 48 {
		if !slices.Equal(first, both) || !slices.Equal(second, both) {
			t.Fatalf("TablePut of %v and %v into %v is %v, and the other way round %v", a, b, table, first, second)
		}
		return
	}
	if firstOk || secondOk || len(first) != 48 || len(second) != 48 {
		t.Fatalf("TablePut of %v and %v into %v is %v, and the other way round %v", a, b, table, first, second)
	}
}

// checkDo compares TableAt and TableDo of every header with what the document says of them (promises 47 and 48).
func checkDo(t *testing.T, table []impl.Rule) {
	t.Helper()
	for n, h := range validHeads() {
		at := impl.TableAt(table, h)
		if at != wantAt(table, n) {
			t.Fatalf("TableAt(%v, %v) is %d", table, h, at)
		}
		g, out := impl.TableDo(table, h)
		wantHead, wantOut := wantDo(table, n)
		if g != wantHead || out != wantOut {
			t.Fatalf("TableDo(%v, %v) is %v, %d", table, h, g, out)
		}
	}
}

func TestTableDoEach(t *testing.T) {
	for _, table := range someTables() {
		checkDo(t, table)
	}
}

// Promises 47 and 48, in the words of the promises.
func TestTableDoRule(t *testing.T) {
	for _, table := range someTables() {
		for _, h := range validHeads() {
			at := impl.TableAt(table, h)
			g, out := impl.TableDo(table, h)
			if at == -1 {
				if g != h || out != 0 || slices.ContainsFunc(table, func(r impl.Rule) bool { return impl.WildHas(r.Match, h) }) {
					t.Fatalf("TableDo(%v, %v) is %v, %d, and TableAt -1", table, h, g, out)
				}
				continue
			}
			if k, port, ok := impl.RuleDo(table[at], h); !ok || g != k || out != port {
				t.Fatalf("TableDo(%v, %v) is %v, %d, and RuleDo %v, %d, %v", table, h, g, out, k, port, ok)
			}
			for _, r := range table[:at] {
				if impl.WildHas(r.Match, h) {
					t.Fatalf("TableAt(%v, %v) is %d, and %v is earlier", table, h, at, r)
				}
			}
		}
	}
}

func TestTableDoCases(t *testing.T) {
	table := rulesOf("9 00xxxx 0 2", "8 00xxxx 3 1", "7 01xxxx 0 -", "6 10xxx1 4 3", "5 10xxx1 2 0", "4 10xx1x 1 -")
	for _, c := range []struct {
		h   impl.Head
		at  int
		g   impl.Head
		out int
	}{
		// A rule of port 0 replaces the tag too.
		{impl.Head{Src: 0, Dst: 1, Tag: 1}, 0, impl.Head{Src: 0, Dst: 1, Tag: 2}, 0},
		{impl.Head{Src: 1, Dst: 1, Tag: 1}, 2, impl.Head{Src: 1, Dst: 1, Tag: 1}, 0},
		{impl.Head{Src: 2, Dst: 3, Tag: 1}, 3, impl.Head{Src: 2, Dst: 3, Tag: 3}, 4},
		{impl.Head{Src: 2, Dst: 3, Tag: 3}, 3, impl.Head{Src: 2, Dst: 3, Tag: 3}, 4},
		{impl.Head{Src: 2, Dst: 3, Tag: 2}, 5, impl.Head{Src: 2, Dst: 3, Tag: 2}, 1},
		// No rule matches these.
		{impl.Head{Src: 2, Dst: 3, Tag: 0}, -1, impl.Head{Src: 2, Dst: 3, Tag: 0}, 0},
		{impl.Head{Src: 3, Dst: 1, Tag: 2}, -1, impl.Head{Src: 3, Dst: 1, Tag: 2}, 0},
	} {
		if at := impl.TableAt(table, c.h); at != c.at {
			t.Errorf("TableAt(%v) is %d", c.h, at)
		}
		if g, out := impl.TableDo(table, c.h); g != c.g || out != c.out {
			t.Errorf("TableDo(%v) is %v, %d", c.h, g, out)
		}
	}
}

func TestTableInvalidHeads(t *testing.T) {
	for _, table := range [][]impl.Rule{nil, {lastRule}, rulesOf("9 xxxxxx 3 -"), rulesOf("5 0xxxxx 3 -", "5 1xxxxx 2 1"), headRules(5)} {
		for _, h := range invalidHeads() {
			if at := impl.TableAt(table, h); at != -1 {
				t.Fatalf("TableAt(%v, %v) is %d", table, h, at)
			}
			if g, out := impl.TableDo(table, h); g != (impl.Head{}) || out != 0 {
				t.Fatalf("TableDo(%v, %v) is %v, %d", table, h, g, out)
			}
		}
	}
}

// Promises 49 and 50: each area against the headers that the rule handles, as a canonical list; together they are each header once.
func TestTableAreaEach(t *testing.T) {
	for _, table := range someTables() {
		areas, rest := wantAreas(table)
		checkArea(t, table, -1, rest)
		seen := rest
		for at, r := range table {
			checkArea(t, table, at, areas[at])
			if seen&areas[at] != 0 {
				t.Fatalf("the area %d of %v is not apart", at, table)
			}
			seen |= areas[at]
			var earlier []string
			for _, q := range table[:at] {
				earlier = append(earlier, q.Match)
			}
			if want := impl.SpaceLess([]string{r.Match}, earlier); !slices.Equal(impl.TableArea(table, at), want) {
				t.Fatalf("TableArea(%v, %d) is not %q", table, at, want)
			}
		}
		if seen != allHeads {
			t.Fatalf("the areas of %v are %b", table, seen)
		}
	}
}

func checkArea(t *testing.T, table []impl.Rule, at int, want uint64) {
	t.Helper()
	area := impl.TableArea(table, at)
	if !slices.Equal(area, wantSpace(want)) {
		t.Fatalf("TableArea(%v, %d) is %q", table, at, area)
	}
	for n, h := range validHeads() {
		if in := impl.SpaceHas(area, h); in != (impl.TableAt(table, h) == at) || in != (want>>n&1 == 1) {
			t.Fatalf("TableArea(%v, %d) is %q, and TableAt(%v) %d", table, at, area, h, impl.TableAt(table, h))
		}
	}
}

// Promise 50, for every two of the patterns over four positions.
func TestTableAreaPairs(t *testing.T) {
	var wilds []string
	for _, w := range allWilds() {
		if strings.HasSuffix(w, "xx") {
			wilds = append(wilds, w[:2]+"x"+w[2:4]+"x")
		}
	}
	for _, a := range wilds {
		for _, b := range wilds {
			table := []impl.Rule{{Prio: 5, Match: a, Out: 1, Tag: -1}, {Prio: 4, Match: b, Out: 2, Tag: -1}}
			first, second := matchSets[a], matchSets[b]&^matchSets[a]
			for _, c := range []struct {
				at  int
				set uint64
			}{{0, first}, {1, second}, {-1, allHeads &^ first &^ second}} {
				if area := impl.TableArea(table, c.at); !slices.Equal(area, wantSpace(c.set)) {
					t.Fatalf("TableArea(%v, %d) is %q", table, c.at, area)
				}
			}
		}
	}
}

// An index that is none of the table, at both ends and at the ends of an int.
func TestTableAreaBounds(t *testing.T) {
	for _, table := range someTables() {
		for _, at := range []int{math.MinInt, math.MinInt + 1, -1 << 32, -1<<32 - 1, -49, -3, -2, len(table), len(table) + 1, 49, 64, 1 << 32, 1<<32 - 1, math.MaxInt - 1, math.MaxInt} {
			if area := impl.TableArea(table, at); len(area) != 0 {
				t.Fatalf("TableArea(%v, %d) is %q", table, at, area)
			}
		}
	}
	table := rulesOf("9 0xxxxx 1 -", "8 00xxxx 2 -", "7 x1xxxx 3 -")
	for at, want := range map[int][]string{-2: nil, -1: {"10xxxx"}, 0: {"0xxxxx"}, 1: nil, 2: {"11xxxx"}, 3: nil} {
		if area := impl.TableArea(table, at); !slices.Equal(area, want) {
			t.Errorf("TableArea(%v, %d) is %q", table, at, area)
		}
	}
}

// Promise 51, for every two of some tables.
func TestTableSamePairs(t *testing.T) {
	tables := append(namedTables(), drawnTables(11, 51)...)
	for _, a := range tables {
		for _, b := range tables {
			checkSame(t, a, b)
		}
	}
}

func checkSame(t *testing.T, a []impl.Rule, b []impl.Rule) bool {
	t.Helper()
	want := wantSame(a, b)
	if impl.TableSame(a, b) != want || impl.TableSame(b, a) != want {
		t.Fatalf("TableSame(%v, %v) is not %v", a, b, want)
	}
	return want
}

// Promise 51, for tables that differ in one rule.
func TestTableSameChanges(t *testing.T) {
	same, different := 0, 0
	for _, table := range append(namedTables(), drawnTables(22, 52)...) {
		for i, r := range table {
			for _, other := range []impl.Rule{
				{Prio: r.Prio, Match: r.Match, Out: (r.Out + 1) % 5, Tag: r.Tag},
				{Prio: r.Prio, Match: r.Match, Out: 0, Tag: r.Tag},
				{Prio: r.Prio, Match: r.Match, Out: r.Out, Tag: (r.Tag+2)%5 - 1},
				{Prio: r.Prio, Match: r.Match[:i%6] + "x" + r.Match[i%6+1:], Out: r.Out, Tag: r.Tag},
				{Prio: (r.Prio + 5) % 10, Match: r.Match, Out: r.Out, Tag: r.Tag},
			} {
				if checkSame(t, table, withRule(withoutRule(table, r), other)) {
					same++
				} else {
					different++
				}
			}
		}
	}
	if same < 500 || different < 500 {
		t.Errorf("%d same and %d different", same, different)
	}
}

func TestTableSameCases(t *testing.T) {
	for _, c := range []struct {
		a, b []string
		want bool
	}{
		{nil, nil, true},
		// The tag is no matter where the port is 0.
		{[]string{"5 01xxxx 0 1"}, []string{"5 01xxxx 0 2"}, true},
		{[]string{"5 01xxxx 0 -"}, []string{"5 01xxxx 0 3"}, true},
		{[]string{"5 01xxxx 0 3"}, nil, true},
		{[]string{"9 xxxxxx 0 0"}, nil, true},
		{[]string{"9 xxxxxx 0 0"}, []string{"0 000000 0 1"}, true},
		{[]string{"9 011011 0 1", "5 xxxxxx 3 -"}, []string{"9 011011 0 2", "5 xxxxxx 3 -"}, true},
		// The tag of one header that is sent on.
		{[]string{"9 011011 3 1", "5 xxxxxx 3 -"}, []string{"9 011011 3 2", "5 xxxxxx 3 -"}, false},
		{[]string{"9 000000 3 1", "5 xxxxxx 3 -"}, []string{"5 xxxxxx 3 -"}, false},
		{[]string{"9 111111 3 0", "5 xxxxxx 3 -"}, []string{"5 xxxxxx 3 -"}, false},
		{[]string{"9 111111 3 3", "5 xxxxxx 3 -"}, []string{"5 xxxxxx 3 -"}, true},
		{[]string{"5 xxxx01 3 -"}, []string{"5 xxxx01 3 1"}, true},
		{[]string{"5 xxxx0x 3 -"}, []string{"5 xxxx0x 3 1"}, false},
		// The port of one header.
		{[]string{"9 011011 4 -", "5 xxxxxx 3 -"}, []string{"5 xxxxxx 3 -"}, false},
		{[]string{"9 111111 0 -", "5 xxxxxx 3 -"}, []string{"5 xxxxxx 3 -"}, false},
		{[]string{"9 000000 1 -"}, nil, false},
		{[]string{"9 111111 1 -"}, nil, false},
		// The same by other rules.
		{[]string{"5 0xxxxx 2 1", "5 1xxxxx 2 1"}, []string{"0 xxxxxx 2 1"}, true},
		{[]string{"5 0xxxxx 2 1", "5 1xxxxx 2 1", "4 x0xxxx 3 -"}, []string{"0 xxxxxx 2 1"}, true},
		{[]string{"5 0xxxxx 2 1", "5 11xxxx 2 1", "4 x0xxxx 3 -"}, []string{"0 xxxxxx 2 1"}, false},
	} {
		a, b := rulesOf(c.a...), rulesOf(c.b...)
		if impl.TableSame(a, b) != c.want || impl.TableSame(b, a) != c.want {
			t.Errorf("TableSame(%v, %v) is not %v", a, b, c.want)
		}
	}
}

// Promise 52.
func TestTableTrimEach(t *testing.T) {
	for _, table := range someTables() {
		trim := impl.TableTrim(table)
		if !slices.Equal(trim, wantTrim(table)) {
			t.Fatalf("TableTrim(%v) is %v", table, trim)
		}
		if !impl.TableOk(trim) || !impl.TableSame(table, trim) || !slices.Equal(impl.TableTrim(trim), trim) {
			t.Fatalf("TableTrim(%v) is %v", table, trim)
		}
		for at := range trim {
			if len(impl.TableArea(trim, at)) == 0 {
				t.Fatalf("TableTrim(%v) is %v, of which %d handles nothing", table, trim, at)
			}
		}
		for n, h := range validHeads() {
			g, out := impl.TableDo(trim, h)
			if wantHead, wantOut := wantDo(table, n); g != wantHead || out != wantOut {
				t.Fatalf("TableTrim(%v) is %v, which makes %v, %d of %v", table, trim, g, out, h)
			}
		}
	}
}

// Rules that are never the first, and rules that are it for one header alone.
func TestTableNeverFirst(t *testing.T) {
	stairs := []string{"6 0xxxxx 1 -", "6 10xxxx 1 -", "6 110xxx 1 -", "6 1110xx 1 -", "6 11110x 1 -", "6 111110 1 -"}
	for _, c := range []struct {
		earlier []string
		rule    string
		area    []string
	}{
		// An earlier rule has the pattern whole.
		{[]string{"5 xxxxxx 1 -"}, "4 01xxxx 2 -", nil},
		{[]string{"5 01xxxx 1 -"}, "4 01xxxx 1 -", nil},
		{[]string{"5 01xxxx 1 -"}, "5 01xxxx 1 0", nil},
		{[]string{"9 01xxxx 0 -", "5 xxxx1x 1 -"}, "4 011x1x 2 -", nil},
		{[]string{"9 xxx1xx 0 -", "5 1xxxxx 1 -"}, "4 011011 2 -", []string{"011011"}},
		// Several earlier rules together have it.
		{[]string{"5 00xxxx 1 -", "5 01xxxx 2 -"}, "4 0xxxxx 3 -", nil},
		{[]string{"9 0xxxxx 1 -", "8 1xxxxx 2 -"}, "7 x1xxxx 3 -", nil},
		{[]string{"9 0xxxxx 1 -", "8 1xxxxx 2 -"}, "0 xxxxxx 0 -", nil},
		{[]string{"9 x1xxx0 1 -", "8 xx1xx1 2 -", "7 0x0xxx 4 1"}, "6 01xxxx 3 -", nil},
		{append(slices.Clone(stairs), "6 111111 1 -"), "5 xxxxxx 2 -", nil},
		// One header is left.
		{stairs, "5 xxxxxx 2 -", []string{"111111"}},
		{stairs, "5 111111 1 -", []string{"111111"}},
		{[]string{"5 00xxxx 1 -", "5 011xxx 2 -", "5 01x1xx 2 -", "5 01xx0x 2 -", "5 01xxx1 2 -"}, "4 0xxxxx 3 -", []string{"010010"}},
	} {
		earlier, r := rulesOf(c.earlier...), rulesOf(c.rule)[0]
		table, ok := impl.TablePut(earlier, r)
		if at := len(earlier); !ok || table[at] != r || !slices.Equal(impl.TableArea(table, at), c.area) {
			t.Errorf("TableArea(%v, %d) is %q", table, at, impl.TableArea(table, at))
		}
		want := table
		if c.area == nil {
			want = earlier
		}
		if trim := impl.TableTrim(table); !slices.Equal(trim, want) {
			t.Errorf("TableTrim(%v) is %v", table, trim)
		}
		if c.area == nil && (!impl.TableSame(table, earlier) || !impl.TableSame(earlier, table)) {
			t.Errorf("TableSame(%v, %v) is false", table, earlier)
		}
	}
}

// Many rules that are never the first: between others, and all but one of a full table.
func TestTableTrimMany(t *testing.T) {
	for count := 1; count <= 48; count++ {
		for _, w := range []string{"xxxxxx", "011011"} {
			table := oneMatchRules(count, w)
			if trim := impl.TableTrim(table); !slices.Equal(trim, table[:1]) {
				t.Fatalf("TableTrim(%v) is %v", table, trim)
			}
		}
		if table := headRules(count); !slices.Equal(impl.TableTrim(table), table) {
			t.Fatalf("TableTrim(%v) is %v", table, impl.TableTrim(table))
		}
	}
	table := rulesOf("9 00xxxx 1 -", "8 000xxx 2 -", "7 01xxxx 3 -", "6 0xxxxx 4 -", "5 1xxxx1 0 -", "4 1xx1x1 1 -", "3 1xxxxx 2 -", "2 xxxxxx 3 -")
	if trim, want := impl.TableTrim(table), rulesOf("9 00xxxx 1 -", "7 01xxxx 3 -", "5 1xxxx1 0 -", "3 1xxxxx 2 -"); !slices.Equal(trim, want) {
		t.Errorf("TableTrim(%v) is %v", table, trim)
	}
}

// Promises 53 and 54.
func TestTableToEach(t *testing.T) {
	for _, table := range someTables() {
		var seen uint64
		for out := 0; out <= impl.OutMax; out++ {
			var want uint64
			for n := range 64 {
				if _, port := wantDo(table, n); port == out {
					want |= 1 << n
				}
			}
			to := impl.TableTo(table, out)
			if !slices.Equal(to, wantSpace(want)) || seen&want != 0 {
				t.Fatalf("TableTo(%v, %d) is %q", table, out, to)
			}
			seen |= want
			for _, h := range validHeads() {
				if _, port := impl.TableDo(table, h); impl.SpaceHas(to, h) != (port == out) {
					t.Fatalf("TableTo(%v, %d) is %q, and TableDo(%v) %d", table, out, to, h, port)
				}
			}
			checkToAreas(t, table, out, to)
		}
		if seen != allHeads {
			t.Fatalf("TableTo(%v) of all ports is %b", table, seen)
		}
	}
}

// checkToAreas is promise 54 in its own words.
func checkToAreas(t *testing.T, table []impl.Rule, out int, to []string) {
	t.Helper()
	var union []string
	if out == 0 {
		union = impl.TableArea(table, -1)
	}
	for at, r := range table {
		if r.Out == out {
			union = impl.SpaceOr(union, impl.TableArea(table, at))
		}
	}
	if !slices.Equal(to, union) {
		t.Fatalf("TableTo(%v, %d) is %q, and the areas %q", table, out, to, union)
	}
}

func TestTableToBounds(t *testing.T) {
	for _, table := range someTables() {
		for _, out := range ruleNumbers(0, impl.OutMax) {
			if to := impl.TableTo(table, out); len(to) != 0 {
				t.Fatalf("TableTo(%v, %d) is %q", table, out, to)
			}
		}
	}
	table := rulesOf("9 00xxxx 0 1", "8 0xxxxx 4 -", "7 0xxxxx 1 -", "6 111xxx 4 2", "5 11xxxx 1 -")
	for out, want := range map[int][]string{-1: nil, 0: {"x0xxxx"}, 1: {"110xxx"}, 2: nil, 3: nil, 4: {"01xxxx", "111xxx"}, 5: nil} {
		if to := impl.TableTo(table, out); !slices.Equal(to, want) {
			t.Errorf("TableTo(%v, %d) is %q", table, out, to)
		}
	}
}

// Promise 55.
func TestTableAfterAll(t *testing.T) {
	tried := 0
	for _, table := range someTables() {
		for out := 0; out <= 4; out++ {
			for tag := -1; tag <= 3; tag++ {
				r := impl.Rule{Prio: 0, Match: "xxxxxx", Out: out, Tag: tag}
				if len(table) == 48 || len(table) > 0 && wantRuleCmp(table[len(table)-1], r) >= 0 {
					continue
				}
				tried++
				checkAfterAll(t, table, r)
			}
		}
	}
	if tried < 500 {
		t.Errorf("%d rules after all others", tried)
	}
}

func checkAfterAll(t *testing.T, table []impl.Rule, r impl.Rule) {
	t.Helper()
	whole, ok := impl.TablePut(table, r)
	if !ok || whole[len(table)] != r {
		t.Fatalf("TablePut(%v, %v) is %v, %v", table, r, whole, ok)
	}
	for n, h := range validHeads() {
		at := wantAt(table, n)
		wantHead, wantOut := wantDo(table, n)
		if at == -1 {
			at = len(table)
			wantHead, wantOut = wantRuleDo(r, h)
		}
		if got := impl.TableAt(whole, h); got != at {
			t.Fatalf("TableAt(%v, %v) is %d", whole, h, got)
		}
		if g, out := impl.TableDo(whole, h); g != wantHead || out != wantOut {
			t.Fatalf("TableDo(%v, %v) is %v, %d", whole, h, g, out)
		}
	}
	if rest := impl.TableArea(whole, -1); len(rest) != 0 {
		t.Fatalf("TableArea(%v, -1) is %q", whole, rest)
	}
}

// Promise 57.
func TestTableDropArea(t *testing.T) {
	for _, table := range append(namedTables(), drawnTables(22, 57)...) {
		areas, _ := wantAreas(table)
		for at, r := range table {
			less, ok := impl.TableDrop(table, r)
			if !ok {
				t.Fatalf("TableDrop(%v, %v) is %v, %v", table, r, less, ok)
			}
			if areas[at] == 0 && !impl.TableSame(table, less) {
				t.Fatalf("TableSame(%v, %v) is false", table, less)
			}
			for n, h := range validHeads() {
				if areas[at]>>n&1 == 1 {
					continue
				}
				g, out := impl.TableDo(less, h)
				if wantHead, wantOut := wantDo(table, n); g != wantHead || out != wantOut {
					t.Fatalf("TableDo(%v, %v) is %v, %d without %v", less, h, g, out, r)
				}
			}
			checkDo(t, less)
		}
	}
}

// Promise 58.
func TestTableBeforeAll(t *testing.T) {
	tried := 0
	rules := append(rulesOf("9 xxxxxx 3 -", "9 011011 0 2", "9 0xxxx1 4 0", "9 x1x0xx 1 3", "9 111111 2 -", "9 1xxxxx 0 -"), firstRule)
	for _, table := range append(someTables(), drawnTables(11, 58)...) {
		for _, r := range rules {
			if len(table) == 48 || len(table) > 0 && wantRuleCmp(r, table[0]) >= 0 {
				continue
			}
			tried++
			whole, ok := impl.TablePut(table, r)
			if !ok || whole[0] != r {
				t.Fatalf("TablePut(%v, %v) is %v, %v", table, r, whole, ok)
			}
			checkBeforeAll(t, table, whole)
		}
	}
	if tried < 200 {
		t.Errorf("%d rules before all others", tried)
	}
}

func checkBeforeAll(t *testing.T, table []impl.Rule, whole []impl.Rule) {
	t.Helper()
	for n, h := range validHeads() {
		at := wantAt(table, n)
		wantHead, wantOut := wantDo(table, n)
		if at >= 0 {
			at++
		}
		if matchSets[whole[0].Match]>>n&1 == 1 {
			at = 0
			wantHead, wantOut = wantRuleDo(whole[0], h)
		}
		if got := impl.TableAt(whole, h); got != at {
			t.Fatalf("TableAt(%v, %v) is %d", whole, h, got)
		}
		if g, out := impl.TableDo(whole, h); g != wantHead || out != wantOut {
			t.Fatalf("TableDo(%v, %v) is %v, %d", whole, h, g, out)
		}
	}
}

// The empty table and a nil slice, for every function.
func TestTableEmpty(t *testing.T) {
	for _, empty := range [][]impl.Rule{nil, {}, headRules(3)[:0]} {
		checkTableOk(t, empty, true)
		for _, r := range otherRules() {
			if put, ok := impl.TablePut(empty, r); !ok || !slices.Equal(put, []impl.Rule{r}) {
				t.Errorf("TablePut(empty, %v) is %v, %v", r, put, ok)
			}
			if dropped, ok := impl.TableDrop(empty, r); ok || len(dropped) != 0 {
				t.Errorf("TableDrop(empty, %v) is %v, %v", r, dropped, ok)
			}
			if dropped, ok := impl.TableDrop([]impl.Rule{r}, r); !ok || len(dropped) != 0 {
				t.Errorf("TableDrop of %v alone is %v, %v", r, dropped, ok)
			}
		}
		checkDo(t, empty)
		for at := -3; at <= 3; at++ {
			if area := impl.TableArea(empty, at); at == -1 && !slices.Equal(area, []string{"xxxxxx"}) || at != -1 && len(area) != 0 {
				t.Errorf("TableArea(empty, %d) is %q", at, area)
			}
		}
		for out := -1; out <= impl.OutMax+1; out++ {
			if to := impl.TableTo(empty, out); out == 0 && !slices.Equal(to, []string{"xxxxxx"}) || out != 0 && len(to) != 0 {
				t.Errorf("TableTo(empty, %d) is %q", out, to)
			}
		}
		if trim := impl.TableTrim(empty); len(trim) != 0 {
			t.Errorf("TableTrim(empty) is %v", trim)
		}
		if !impl.TableSame(empty, nil) || !impl.TableSame([]impl.Rule{}, empty) || impl.TableSame(empty, []impl.Rule{lastRule}) {
			t.Errorf("TableSame of the empty table")
		}
	}
}

// What is no table, for every function.
func TestTableRejects(t *testing.T) {
	for _, no := range noTables() {
		for _, r := range []impl.Rule{firstRule, lastRule, no[0], no[len(no)-1], {}, {Prio: 5, Match: "01x01x", Out: 2, Tag: -1}} {
			checkNoTable(t, no, r)
		}
		for _, h := range []impl.Head{{}, {Src: 1, Dst: 2, Tag: 3}, {Src: 3, Dst: 3, Tag: 3}, {Src: 4}, {Tag: -1}} {
			if at := impl.TableAt(no, h); at != -1 {
				t.Fatalf("TableAt(%v, %v) is %d", no, h, at)
			}
			if g, out := impl.TableDo(no, h); g != (impl.Head{}) || out != 0 {
				t.Fatalf("TableDo(%v, %v) is %v, %d", no, h, g, out)
			}
		}
		for _, at := range []int{-2, -1, 0, 1, len(no) - 1, len(no), 47, 48} {
			if area := impl.TableArea(no, at); len(area) != 0 {
				t.Fatalf("TableArea(%v, %d) is %q", no, at, area)
			}
		}
		for out := -1; out <= impl.OutMax+1; out++ {
			if to := impl.TableTo(no, out); len(to) != 0 {
				t.Fatalf("TableTo(%v, %d) is %q", no, out, to)
			}
		}
		if trim := impl.TableTrim(no); len(trim) != 0 {
			t.Fatalf("TableTrim(%v) is %v", no, trim)
		}
		for _, table := range [][]impl.Rule{nil, {firstRule}, {lastRule}, headRules(48), no[:1]} {
			if impl.TableSame(no, table) || impl.TableSame(table, no) {
				t.Fatalf("TableSame of %v and %v is true", no, table)
			}
		}
		if impl.TableSame(no, no) || impl.TableSame(no, headRules(49)) || impl.TableSame(headRules(49), no) {
			t.Fatalf("TableSame of %v and what is no table either is true", no)
		}
	}
}

// ownTable is a copy of a table whose patterns have memory of their own, with space behind it that is filled too.
func ownTable(table []impl.Rule) []impl.Rule {
	l := make([]impl.Rule, 0, len(table)+4)
	for _, r := range table {
		l = append(l, ownRule(r))
	}
	for i := range 4 {
		l = append(l, impl.Rule{Prio: -7 - i, Match: "spare", Out: -7, Tag: -7})
	}
	return l[:len(table)]
}

func ownRule(r impl.Rule) impl.Rule {
	r.Match = strings.Clone(r.Match)
	return r
}

// rulesMeet is whether two slices of rules, up to their capacity, or two of their patterns have memory in common.
func rulesMeet(a []impl.Rule, b []impl.Rule) bool {
	for _, r := range a {
		for _, q := range b {
			if bytesMeet(r.Match, q.Match) {
				return true
			}
		}
	}
	if cap(a) == 0 || cap(b) == 0 {
		return false
	}
	size := unsafe.Sizeof(impl.Rule{})
	firstA, firstB := uintptr(unsafe.Pointer(unsafe.SliceData(a))), uintptr(unsafe.Pointer(unsafe.SliceData(b)))
	return firstA < firstB+uintptr(cap(b))*size && firstB < firstA+uintptr(cap(a))*size
}

// The arguments are as they were, also behind the end of the slice, and no result shares memory with them.
func TestTableOwnMemory(t *testing.T) {
	for _, kept := range someTables() {
		rules := otherRules()
		if len(kept) > 0 {
			rules = append(rules, kept[0], kept[len(kept)/2], kept[len(kept)-1])
		}
		for _, rule := range append(rules, impl.Rule{}) {
			table, r := ownTable(kept), ownRule(rule)
			before := slices.Clone(table[:cap(table)])
			put, _ := impl.TablePut(table, r)
			dropped, _ := impl.TableDrop(table, r)
			trim := impl.TableTrim(table)
			results := [][]impl.Rule{put, dropped, trim}
			for i, result := range results {
				if rulesMeet(result, table) || rulesMeet(result, []impl.Rule{r}) {
					t.Fatalf("%v of %v and %v shares memory with them", result, table, r)
				}
				for _, other := range results[:i] {
					if rulesMeet(result, other) {
						t.Fatalf("%v and %v of %v share memory", result, other, table)
					}
				}
			}
			for _, result := range results {
				clear(result[:cap(result)])
			}
			if !slices.Equal(table[:cap(table)], before) || r != rule {
				t.Fatalf("%v and %v have become %v and %v", before, rule, table, r)
			}
		}
	}
}

// The rules of one result share no memory with each other.
func TestTableOwnPatterns(t *testing.T) {
	w := strings.Clone("01xxxx")
	table := []impl.Rule{{Prio: 9, Match: w, Out: 1}, {Prio: 8, Match: w, Out: 2}}
	put, ok := impl.TablePut(table, impl.Rule{Prio: 7, Match: w, Out: 3})
	if !ok || len(put) != 3 {
		t.Fatalf("TablePut(%v) is %v, %v", table, put, ok)
	}
	for i, r := range put {
		if bytesMeet(r.Match, w) || bytesMeet(r.Match, put[(i+1)%3].Match) {
			t.Errorf("%v has memory in common", put)
		}
	}
}

// The other functions leave their arguments as they were, and their texts are no memory of a rule.
func TestTableArgumentsKept(t *testing.T) {
	for _, kept := range someTables() {
		table := ownTable(kept)
		before := slices.Clone(table[:cap(table)])
		impl.TableOk(table)
		impl.TableSame(table, table)
		for _, h := range validHeads() {
			impl.TableAt(table, h)
			impl.TableDo(table, h)
		}
		var texts []string
		for at := -1; at < len(table); at++ {
			texts = append(texts, impl.TableArea(table, at)...)
		}
		for out := range impl.OutMax + 1 {
			texts = append(texts, impl.TableTo(table, out)...)
		}
		for _, text := range texts {
			for _, r := range table {
				if bytesMeet(text, r.Match) {
					t.Fatalf("%q of %v shares memory with it", text, table)
				}
			}
		}
		if !slices.Equal(table[:cap(table)], before) {
			t.Fatalf("%v has become %v", before, table)
		}
	}
}

// Results do not depend on what was called before, nor on what is done to an earlier result.
func TestTableNoState(t *testing.T) {
	table := rulesOf("9 00xxxx 0 1", "8 0xxxxx 4 -", "7 0xxxxx 1 -", "6 111xxx 4 2", "5 11xxxx 1 -")
	for range 3 {
		put, putOk := impl.TablePut(table, lastRule)
		dropped, dropOk := impl.TableDrop(table, table[2])
		trim, area, to := impl.TableTrim(table), impl.TableArea(table, -1), impl.TableTo(table, 4)
		if !putOk || !slices.Equal(put, withRule(table, lastRule)) || !dropOk || !slices.Equal(dropped, withoutRule(table, table[2])) || !slices.Equal(trim, dropped) {
			t.Fatalf("TablePut, TableDrop and TableTrim are %v, %v and %v", put, dropped, trim)
		}
		if !slices.Equal(area, []string{"10xxxx"}) || !slices.Equal(to, []string{"01xxxx", "111xxx"}) {
			t.Fatalf("TableArea and TableTo are %q and %q", area, to)
		}
		clear(put)
		clear(dropped)
		clear(trim)
		clear(area)
		clear(to)
	}
}
