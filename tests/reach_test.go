package tests

import (
	"math"
	"math/rand/v2"
	"slices"
	"strings"
	"sync"
	"testing"

	"loop.example/crossbuck/impl"
)

// reachSets is what the functions have to say of a network with a configuration: the headers by the starting switch and the end plus one, and by the starting switch and one that they visit.
type reachSets struct {
	to  [5][6]uint64
	via [5][5]uint64
}

// reachCase is what ReachTo and ReachVia say of one starting switch, written out: patterns by the end, and by the visited switch. What is left out is empty.
type reachCase struct {
	n    []impl.Link
	c    [][]impl.Rule
	from int
	to   map[int]string
	via  map[int]string
}

// confPair is two configurations of one network.
type confPair struct {
	n []impl.Link
	a [][]impl.Rule
	b [][]impl.Rule
}

// wantReach follows every header from every switch, by the document's definition of a walk.
func wantReach(n []impl.Link, c [][]impl.Rule) reachSets {
	var want reachSets
	for i, s := range everySpot() {
		w, bit := wantWalk(n, c, s), uint64(1)<<(i%64)
		want.to[s.Sw][w.wantEnd()+1] |= bit
		for _, sw := range allSwitches() {
			if w.visits(sw) {
				want.via[s.Sw][sw] |= bit
			}
		}
	}
	return want
}

// free is ReachFree.
func (r reachSets) free() bool {
	return !slices.ContainsFunc(r.to[:], func(to [6]uint64) bool { return to[0] != 0 })
}

func checkTo(t *testing.T, n []impl.Link, c [][]impl.Rule, from int, to int, want []string) {
	t.Helper()
	if got := impl.ReachTo(n, c, from, to); !slices.Equal(got, want) {
		t.Fatalf("ReachTo(%v, %v, %d, %d) is\n%q, not\n%q", n, c, from, to, got, want)
	}
}

func checkVia(t *testing.T, n []impl.Link, c [][]impl.Rule, from int, sw int, want []string) {
	t.Helper()
	if got := impl.ReachVia(n, c, from, sw); !slices.Equal(got, want) {
		t.Fatalf("ReachVia(%v, %v, %d, %d) is\n%q, not\n%q", n, c, from, sw, got, want)
	}
}

func checkFree(t *testing.T, n []impl.Link, c [][]impl.Rule, want bool) {
	t.Helper()
	if impl.ReachFree(n, c) != want {
		t.Fatalf("ReachFree(%v, %v) is %v", n, c, !want)
	}
}

func checkReach(t *testing.T, n []impl.Link, c [][]impl.Rule, want reachSets) {
	t.Helper()
	for _, from := range allSwitches() {
		for to := -1; to <= 4; to++ {
			checkTo(t, n, c, from, to, wantSpace(want.to[from][to+1]))
		}
		for _, sw := range allSwitches() {
			checkVia(t, n, c, from, sw, wantSpace(want.via[from][sw]))
		}
	}
	checkFree(t, n, c, want.free())
}

func checkReachCase(t *testing.T, k reachCase) {
	t.Helper()
	for to := -1; to <= 4; to++ {
		checkTo(t, k.n, k.c, k.from, to, strings.Fields(k.to[to]))
	}
	for _, sw := range allSwitches() {
		checkVia(t, k.n, k.c, k.from, sw, strings.Fields(k.via[sw]))
	}
}

// checkSameReach asks in both orders, and says what the answer has to be.
func checkSameReach(t *testing.T, p confPair) bool {
	t.Helper()
	want := wantReach(p.n, p.a).to == wantReach(p.n, p.b).to
	if first, second := impl.ReachSame(p.n, p.a, p.b), impl.ReachSame(p.n, p.b, p.a); first != want || second != want {
		t.Fatalf("ReachSame(%v, %v, %v) is %v, and %v the other way round", p.n, p.a, p.b, first, second)
	}
	return want
}

// checkEmptyReach is what the functions of one configuration say where an argument is invalid.
func checkEmptyReach(t *testing.T, n []impl.Link, c [][]impl.Rule, from int, to int, sw int) {
	t.Helper()
	checkTo(t, n, c, from, to, nil)
	checkVia(t, n, c, from, sw, nil)
}

// checkNoReach is what every function says of what is no network or no configuration. The other arguments are some of those there are, by an index.
func checkNoReach(t *testing.T, n []impl.Link, c [][]impl.Rule, i int) {
	t.Helper()
	checkEmptyReach(t, n, c, 1+i%4, i/4%6-1, 1+i/4%4)
	checkFree(t, n, c, false)
	for _, p := range []confPair{{n, c, c}, {n, c, hostConf()}, {n, hostConf(), c}, {n, c, cloneConf(c)}} {
		if impl.ReachSame(p.n, p.a, p.b) {
			t.Fatalf("ReachSame(%v, %v, %v) is true", p.n, p.a, p.b)
		}
	}
}

// hostConf delivers all packets at their first switch.
func hostConf() [][]impl.Rule {
	return confOf("9 xxxxxx 4 -", "9 xxxxxx 4 -", "9 xxxxxx 4 -", "9 xxxxxx 4 -")
}

// lineNet leads to the next switch by port 1 of the first and port 2 of the others, and back by port 1.
func lineNet() []impl.Link {
	return netOf("1.1 2.1", "2.2 3.1", "3.2 4.1")
}

// drawnHeadConfs is networks and configurations drawn by a fixed seed, with rules of one header, or of one pattern of Src and Dst and one tag, most of which send to a link and write a tag.
func drawnHeadConfs(count int, seed uint64) []wired {
	draw := rand.New(rand.NewPCG(seed, 23))
	nets := [][]impl.Link{netOf("1.2 2.2", "2.1 1.3"), lineNet(), ringNet(), fullNet()}
	var l []wired
	for i := range count {
		var c [][]impl.Rule
		for range 4 {
			var table []impl.Rule
			for len(table) < 48 {
				match := impl.WildOf(validHeads()[draw.IntN(64)])
				if i%2 == 1 {
					match = match[:1] + "x" + match[2:3] + "x" + match[4:]
				}
				table = withRule(table, impl.Rule{Prio: draw.IntN(10), Match: match, Out: []int{1, 1, 1, 2, 2, 2, 3, 3, 4, 0}[draw.IntN(10)], Tag: draw.IntN(5) - 1})
			}
			c = append(c, table)
		}
		l = append(l, wired{drawOrder(draw, nets[i/2%4]), c})
	}
	return l
}

// reachConfs is networks with configurations of many kinds.
var reachConfs = sync.OnceValue(func() []wired {
	l := slices.Concat(someConfs(), drawnConfs(120, 84), drawnHeadConfs(40, 84))
	for _, w := range append(namedConfs(), drawnConfs(16, 23)...) {
		for _, n := range [][]impl.Link{nil, netOf("1.1 2.1"), netOf("4.2 3.1"), ringNet()} {
			l = append(l, wired{n, w.c})
		}
	}
	tables := someTables()
	for i := range tables {
		l = append(l, wired{everyNet()[i*i*11], [][]impl.Rule{tables[i], tables[(i+1)%len(tables)], tables[(i+5)%len(tables)], tables[(i+11)%len(tables)]}})
	}
	return l
})

// What the configurations have to contain, so that the tests below mean something.
func TestReachLimits(t *testing.T) {
	var ends [6]int
	var links [7]int
	visited, free, changed, led := 0, 0, 0, 0
	for _, w := range reachConfs() {
		if !wantNetOk(w.n) || len(w.c) != 4 {
			t.Fatalf("%v and %v", w.n, w.c)
		}
		links[len(w.n)]++
		want := wantReach(w.n, w.c)
		if want.free() {
			free++
		}
		for _, from := range allSwitches() {
			for i, set := range want.to[from] {
				if set != 0 && set != allHeads {
					ends[i]++
				}
			}
			for _, set := range want.via[from] {
				if set != 0 && set != allHeads {
					visited++
				}
			}
		}
		for _, s := range everySpot() {
			if got := wantWalk(w.n, w.c, s); len(got.way) > 1 && got.way[1].Head != s.Head {
				changed++
				if wantWalk(w.n, w.c, impl.Spot{Sw: got.way[1].Sw, Head: s.Head}).wantEnd() != got.wantEnd() {
					led++
				}
			}
		}
	}
	if slices.Min(ends[:]) < 200 || visited < 1000 || free < 50 || len(reachConfs())-free < 50 {
		t.Errorf("%v sets by their end, %d by the visited switch, and %d configurations of %d without rounds", ends, visited, free, len(reachConfs()))
	}
	if slices.Min(links[:]) < 20 {
		t.Errorf("%v networks, by their number of links", links)
	}
	if changed < 10000 || led < 3000 {
		t.Errorf("%d headers change at the first switch, and %d of them end elsewhere for it", changed, led)
	}
}

// Promises 84, 86 and 87, by the document's definitions: every starting switch with every end and every visited switch.
func TestReachEach(t *testing.T) {
	for _, w := range reachConfs() {
		checkReach(t, w.n, w.c, wantReach(w.n, w.c))
	}
}

// Promise 84, in its own words.
func TestReachToEnds(t *testing.T) {
	for _, w := range reachConfs() {
		for _, from := range allSwitches() {
			for to := -1; to <= 4; to++ {
				set := spaceSet(impl.ReachTo(w.n, w.c, from, to))
				for i, h := range validHeads() {
					if end := impl.WalkEnd(w.n, w.c, impl.Spot{Sw: from, Head: h}); (end == to) != (set>>i&1 == 1) {
						t.Fatalf("ReachTo(%v, %v, %d, %d) is %v, and WalkEnd of %v is %d", w.n, w.c, from, to, wantSpace(set), h, end)
					}
				}
			}
		}
	}
}

// Promise 85, in its own words.
func TestReachToParts(t *testing.T) {
	for _, w := range reachConfs() {
		for _, from := range allSwitches() {
			var union []string
			sum := 0
			for to := -1; to <= 4; to++ {
				part := impl.ReachTo(w.n, w.c, from, to)
				if both := impl.SpaceAnd(union, part); len(both) != 0 {
					t.Fatalf("ReachTo(%v, %v, %d, %d) is %v, and has %v in common with the ends before", w.n, w.c, from, to, part, both)
				}
				union = impl.SpaceOr(union, part)
				sum += impl.SpaceMany(part)
			}
			if !slices.Equal(union, []string{"xxxxxx"}) || sum != 64 {
				t.Fatalf("ReachTo(%v, %v, %d) of all ends is %v, with %d headers", w.n, w.c, from, union, sum)
			}
		}
	}
}

// Promise 86, in its own words.
func TestReachViaWalks(t *testing.T) {
	for _, w := range reachConfs() {
		for _, from := range allSwitches() {
			var sets [5]uint64
			for _, sw := range allSwitches() {
				via := impl.ReachVia(w.n, w.c, from, sw)
				sets[sw] = spaceSet(via)
				if to := impl.ReachTo(w.n, w.c, from, sw); len(impl.SpaceLess(to, via)) != 0 {
					t.Fatalf("of %v and %v, from %d, %v come to host %d, and %v to its switch", w.n, w.c, from, to, sw, via)
				}
			}
			if sets[from] != allHeads {
				t.Fatalf("ReachVia(%v, %v, %d, %d) is %v", w.n, w.c, from, from, wantSpace(sets[from]))
			}
			for i, h := range validHeads() {
				got := walkOf(w.n, w.c, impl.Spot{Sw: from, Head: h})
				for _, sw := range allSwitches() {
					if got.visits(sw) != (sets[sw]>>i&1 == 1) {
						t.Fatalf("ReachVia(%v, %v, %d, %d) is %v, and the walk %v", w.n, w.c, from, sw, wantSpace(sets[sw]), got)
					}
				}
			}
		}
	}
}

// Promise 87, in its own words.
func TestReachFreeEach(t *testing.T) {
	for _, w := range reachConfs() {
		want := true
		for _, from := range allSwitches() {
			want = want && len(impl.ReachTo(w.n, w.c, from, -1)) == 0
		}
		checkFree(t, w.n, w.c, want)
	}
}

// Promise 87: the packets of one header alone go round, between two switches. On the way back they have the same tag or another one.
func TestReachFreeOne(t *testing.T) {
	for _, from := range allSwitches() {
		next := from%4 + 1
		for i, h := range validHeads() {
			for tag := range 4 {
				there, back := impl.Spot{Sw: from, Head: h}, impl.Spot{Sw: next, Head: h}
				back.Head.Tag = tag
				c := withSend(withSend(hostConf(), there, next, tag), back, from, h.Tag)
				checkFree(t, ringNet(), c, false)
				checkFree(t, ringNet(), withTable(c, next, nil), true)
				checkFree(t, lineNet(), c, from == 4)
				checkTo(t, ringNet(), c, from, -1, wantSpace(1<<i))
				checkTo(t, ringNet(), c, next, -1, wantSpace(1<<(i-h.Tag+tag)))
				checkTo(t, ringNet(), c, next%4+1, -1, nil)
			}
		}
	}
}

// withSend is a configuration under which, in ringNet, a packet goes to another switch with a tag.
func withSend(c [][]impl.Rule, s impl.Spot, to int, tag int) [][]impl.Rule {
	return withTable(c, s.Sw, withRule(c[s.Sw-1], impl.Rule{Prio: 9, Match: impl.WildOf(s.Head), Out: portTo(ringNet(), s.Sw, to), Tag: tag}))
}

// otherConfs is configurations that are like one but for some rules or the order of its tables.
func otherConfs(c [][]impl.Rule) [][][]impl.Rule {
	l := [][][]impl.Rule{cloneConf(c), respeltConf(c), {c[1], c[2], c[3], c[0]}, {c[0], c[2], c[1], c[3]}}
	for _, sw := range allSwitches() {
		table := c[sw-1]
		l = append(l, withTable(c, sw, nil), withTable(c, sw, impl.TableTrim(table)))
		if len(table) > 0 {
			l = append(l, withTable(c, sw, table[1:]), withTable(c, sw, table[:len(table)-1]), withTable(c, sw, slices.Delete(slices.Clone(table), len(table)/2, len(table)/2+1)))
		}
		if len(table) < 48 {
			l = append(l, withTable(c, sw, withRule(table, lastRule)), withTable(c, sw, withRule(table, firstRule)))
		}
	}
	return l
}

// respeltConf is other tables that do the same with every header.
func respeltConf(c [][]impl.Rule) [][]impl.Rule {
	var l [][]impl.Rule
	for _, table := range c {
		l = append(l, respelt(table))
	}
	return l
}

// respelt has rules for the canonical list of each area, and none for headers that are dropped. Since no two of them match the same header, their Prios do not matter. Where they would be too many, it is the rules that handle a header.
func respelt(table []impl.Rule) []impl.Rule {
	areas, _ := wantAreas(table)
	var l []impl.Rule
	for at, r := range table {
		for i, match := range wantSpace(areas[at]) {
			if r.Out != 0 {
				l = append(l, impl.Rule{Prio: (at + i) % 10, Match: match, Out: r.Out, Tag: r.Tag})
			}
		}
	}
	if len(l) > 48 {
		return wantTrim(table)
	}
	return inOrder(l)
}

// Promise 88, by the document's definition and in its own words.
func TestReachSameEach(t *testing.T) {
	var answers [2]int
	for i, w := range reachConfs() {
		others := otherConfs(w.c)
		if i%12 != 0 {
			others = [][][]impl.Rule{others[i%len(others)], reachConfs()[(i*i+1)%len(reachConfs())].c}
		}
		lists := toLists(w.n, w.c)
		for _, other := range others {
			same := checkSameReach(t, confPair{w.n, w.c, other})
			if want := lists == toLists(w.n, other); same != want {
				t.Fatalf("ReachSame(%v, %v, %v) is %v, and ReachTo agrees: %v", w.n, w.c, other, same, want)
			}
			if same {
				answers[1]++
			} else {
				answers[0]++
			}
		}
	}
	if slices.Min(answers[:]) < 500 {
		t.Errorf("%d answers are false, and %d true", answers[0], answers[1])
	}
}

// toLists is ReachTo of every starting switch and every end, as one text.
func toLists(n []impl.Link, c [][]impl.Rule) string {
	var text strings.Builder
	for _, from := range allSwitches() {
		for to := -1; to <= 4; to++ {
			text.WriteString(strings.Join(impl.ReachTo(n, c, from, to), " ") + "\n")
		}
	}
	return text.String()
}

// Promise 89, with the tables trimmed, with other tables of the same effect, and with either at one switch alone. The lists are the same too.
func TestReachSameTables(t *testing.T) {
	changed := 0
	for _, w := range reachConfs() {
		trimmed := cloneConf(w.c)
		for i := range trimmed {
			trimmed[i] = impl.TableTrim(trimmed[i])
		}
		other := respeltConf(w.c)
		checkReach(t, w.n, other, wantReach(w.n, w.c))
		others := [][][]impl.Rule{other, trimmed}
		for _, sw := range allSwitches() {
			others = append(others, withTable(w.c, sw, trimmed[sw-1]), withTable(w.c, sw, other[sw-1]))
		}
		for _, other := range others {
			if !sameConf(other, w.c) {
				changed++
			}
			for j := range other {
				if !impl.TableSame(other[j], w.c[j]) {
					t.Fatalf("TableSame(%v, %v) is false", other[j], w.c[j])
				}
			}
			if !impl.ReachSame(w.n, w.c, other) || !impl.ReachSame(w.n, other, w.c) {
				t.Fatalf("ReachSame(%v, %v, %v) is false", w.n, w.c, other)
			}
		}
	}
	if changed < 1000 {
		t.Errorf("%d configurations differ from what they are the same as", changed)
	}
}

// Promise 90, in its own words.
func TestReachNoLinks(t *testing.T) {
	for i, w := range reachConfs() {
		for _, n := range [][]impl.Link{ownNet(nil), [][]impl.Link{nil, {}}[i%2]} {
			checkFree(t, n, w.c, true)
			for _, from := range allSwitches() {
				host := impl.TableTo(w.c[from-1], impl.PortHost)
				checkTo(t, n, w.c, from, -1, nil)
				checkTo(t, n, w.c, from, 0, impl.SpaceLess([]string{"xxxxxx"}, host))
				for _, other := range allSwitches() {
					want, wantVia := host, []string{"xxxxxx"}
					if other != from {
						want, wantVia = nil, nil
					}
					checkTo(t, n, w.c, from, other, want)
					checkVia(t, n, w.c, from, other, wantVia)
				}
			}
		}
	}
}

// Tags that are written at the first, a middle and the last switch, written out.
func TestReachTagWritten(t *testing.T) {
	first := confOf("5 xxxxxx 1 2", "5 xxxx10 2 -", "5 xxxxxx 4 -", "")
	middle := confOf("5 xxxxxx 1 -", "5 xxxx01 2 3, 4 xxxx11 0 -, 3 xxxxxx 2 -", "5 xxxx11 2 -, 4 xxxxx0 4 -", "5 xxxxxx 4 1")
	last := confOf("5 xxxxxx 1 -", "5 xxxxxx 2 -", "5 00xxxx 4 0, 4 xx11xx 4 3, 3 xxxxx1 4 1, 2 10xxxx 0 2, 1 11xxxx 3 2", "")
	for _, k := range []reachCase{
		{lineNet(), first, 1, map[int]string{3: "xxxxxx"}, map[int]string{1: "xxxxxx", 2: "xxxxxx", 3: "xxxxxx"}},
		{lineNet(), first, 2, map[int]string{3: "xxxx10", 0: "xxxx0x xxxx11"}, map[int]string{2: "xxxxxx", 3: "xxxx10"}},
		{lineNet(), middle, 1, map[int]string{3: "xxxxx0", 4: "xxxx01", 0: "xxxx11"}, map[int]string{1: "xxxxxx", 2: "xxxxxx", 3: "xxxx0x xxxx10", 4: "xxxx01"}},
		{lineNet(), middle, 2, map[int]string{3: "xxxxx0", 4: "xxxx01", 0: "xxxx11"}, map[int]string{2: "xxxxxx", 3: "xxxx0x xxxx10", 4: "xxxx01"}},
		{lineNet(), middle, 3, map[int]string{3: "xxxxx0", 4: "xxxx11", 0: "xxxx01"}, map[int]string{3: "xxxxxx", 4: "xxxx11"}},
		{lineNet(), middle, 4, map[int]string{4: "xxxxxx"}, map[int]string{4: "xxxxxx"}},
		{lineNet(), last, 1, map[int]string{3: "00xxxx 010xx1 0110x1 0111xx 1x0xx1 1x10x1 1x11xx", 0: "010xx0 0110x0 1x0xx0 1x10x0"}, map[int]string{1: "xxxxxx", 2: "xxxxxx", 3: "xxxxxx"}},
		{lineNet(), last, 3, map[int]string{3: "00xxxx 010xx1 0110x1 0111xx 1x0xx1 1x10x1 1x11xx", 0: "010xx0 0110x0 1x0xx0 1x10x0"}, map[int]string{3: "xxxxxx"}},
	} {
		checkReachCase(t, k)
	}
}

// Headers of different Tag that meet behind a switch and go on together, written out: both with the tag that the rules wrote, or one with its own.
func TestReachTagsMeet(t *testing.T) {
	both := confOf("5 xxxx00 1 3, 5 xxxx01 1 3, 4 xxxxxx 1 -", "5 xxxx11 2 -, 4 xxxx10 4 -", "5 0xxx11 4 -, 4 1xxx11 2 1", "5 xxxx01 4 -")
	later := confOf("5 xxxx00 1 1, 5 xxxx10 1 3, 4 xxxxxx 1 -", "5 xxxxx1 2 2", "5 x0xx10 2 -, 4 x1xx10 4 -", "5 xx0xxx 4 -, 4 xx1xxx 0 -")
	twoWays := confOf("5 xxxxx0 1 2, 4 xxxxx1 2 2", "5 xxxx10 2 1", "5 xxxx01 4 -", "5 xxxx10 1 1")
	for _, k := range []reachCase{
		{lineNet(), both, 1, map[int]string{2: "xxxx10", 3: "0xxx0x 0xxx11", 4: "1xxx0x 1xxx11"}, map[int]string{1: "xxxxxx", 2: "xxxxxx", 3: "xxxx0x xxxx11", 4: "1xxx0x 1xxx11"}},
		{lineNet(), both, 2, map[int]string{2: "xxxx10", 3: "0xxx11", 4: "1xxx11", 0: "xxxx0x"}, map[int]string{2: "xxxxxx", 3: "xxxx11", 4: "1xxx11"}},
		{lineNet(), both, 3, map[int]string{3: "0xxx11", 4: "1xxx11", 0: "xxxx0x xxxx10"}, map[int]string{3: "xxxxxx", 4: "1xxx11"}},
		{lineNet(), later, 1, map[int]string{3: "x1xxxx", 4: "x00xxx", 0: "x01xxx"}, map[int]string{1: "xxxxxx", 2: "xxxxxx", 3: "xxxxxx", 4: "x0xxxx"}},
		{lineNet(), later, 2, map[int]string{3: "x1xxx1", 4: "x00xx1", 0: "x00xx0 x01xxx x1xxx0"}, map[int]string{2: "xxxxxx", 3: "xxxxx1", 4: "x0xxx1"}},
		{ringNet(), twoWays, 1, map[int]string{3: "xxxxxx"}, map[int]string{1: "xxxxxx", 2: "xxxxx0", 3: "xxxxxx", 4: "xxxxx1"}},
		{ringNet(), twoWays, 4, map[int]string{3: "xxxx10", 0: "xxxx0x xxxx11"}, map[int]string{4: "xxxxxx", 3: "xxxx10"}},
	} {
		checkReachCase(t, k)
	}
}

// A changed tag that leads to a switch, a host or a drop where the one before would not, written out, and one that is changed and changed back.
func TestReachTagLeads(t *testing.T) {
	host := confOf("5 xxxx0x 1 3, 4 xxxxxx 1 0", "5 xxxx11 4 -, 4 xxxx00 2 -", "5 xxxx00 4 2", "")
	drop := confOf("5 xxxx0x 1 2, 4 xxxx1x 1 1", "5 xxxx00 4 -, 5 xxxx01 0 -, 5 xxxx10 3 -, 5 xxxx11 2 -", "5 xxxxxx 4 -", "")
	rest := confOf("5 xxxxxx 1 1", "5 xxxx00 4 -, 5 xxxx1x 2 -", "", "")
	back := confOf("5 xxxx01 1 2, 4 xxxxxx 1 -", "5 xxxx10 2 1, 4 xxxx01 2 3, 3 xxxxxx 0 -", "5 xxxx01 4 -, 4 xxxxxx 2 -", "")
	again := confOf("5 xxxx00 1 1, 5 xxxx10 2 -", "5 xxxx01 1 2", "", "5 xxxx10 4 0")
	for _, k := range []reachCase{
		{lineNet(), host, 1, map[int]string{2: "xxxx0x", 3: "xxxx1x"}, map[int]string{1: "xxxxxx", 2: "xxxxxx", 3: "xxxx1x"}},
		{lineNet(), host, 2, map[int]string{2: "xxxx11", 3: "xxxx00", 0: "xxxx01 xxxx10"}, map[int]string{2: "xxxxxx", 3: "xxxx00"}},
		{lineNet(), drop, 1, map[int]string{0: "xxxxxx"}, map[int]string{1: "xxxxxx", 2: "xxxxxx"}},
		{lineNet(), drop, 2, map[int]string{2: "xxxx00", 3: "xxxx11", 0: "xxxx01 xxxx10"}, map[int]string{2: "xxxxxx", 3: "xxxx11"}},
		{lineNet(), rest, 1, map[int]string{0: "xxxxxx"}, map[int]string{1: "xxxxxx", 2: "xxxxxx"}},
		{lineNet(), rest, 2, map[int]string{2: "xxxx00", 0: "xxxx01 xxxx1x"}, map[int]string{2: "xxxxxx", 3: "xxxx1x"}},
		{lineNet(), back, 1, map[int]string{3: "xxxx01 xxxx10", 0: "xxxx00 xxxx11"}, map[int]string{1: "xxxxxx", 2: "xxxxxx", 3: "xxxx01 xxxx10"}},
		{lineNet(), back, 2, map[int]string{3: "xxxx10", 0: "xxxx0x xxxx11"}, map[int]string{2: "xxxxxx", 3: "xxxx01 xxxx10", 4: "xxxx01"}},
		{lineNet(), back, 3, map[int]string{3: "xxxx01", 0: "xxxx00 xxxx1x"}, map[int]string{3: "xxxxxx", 4: "xxxx00 xxxx1x"}},
		{ringNet(), again, 1, map[int]string{4: "xxxxx0", 0: "xxxxx1"}, map[int]string{1: "xxxxxx", 2: "xxxx00", 4: "xxxxx0"}},
		{ringNet(), again, 2, map[int]string{4: "xxxx01", 0: "xxxx00 xxxx1x"}, map[int]string{2: "xxxxxx", 1: "xxxx01", 4: "xxxx01"}},
	} {
		checkReachCase(t, k)
	}
}

// What goes round at once, behind a first part, or only for some headers, and every way of a drop, written out.
func TestReachEnds(t *testing.T) {
	two, tail := netOf("1.2 2.2", "2.1 1.3"), netOf("1.1 2.1", "2.2 3.1", "3.2 1.2", "4.1 1.3")
	turn := confOf("5 xxxxxx 1 -", "5 xxxxxx 2 -", "5 xxxxxx 2 -", "5 xxxxxx 1 -")
	once := confOf("5 0xxxxx 2 -, 4 xxxxx1 4 -", "5 00xxxx 2 -, 4 01xxxx 4 -", "", "")
	ends := confOf("9 0xxxxx 1 -, 5 100xxx 4 1, 4 101xxx 0 1, 3 110xxx 3 1", "9 000xxx 4 -, 8 001xxx 0 3, 7 010xxx 3 3", "", "")
	for _, k := range []reachCase{
		{two, confOf("5 xxxxxx 2 -", "5 xxxxxx 2 -", "", ""), 1, map[int]string{-1: "xxxxxx"}, map[int]string{1: "xxxxxx", 2: "xxxxxx"}},
		{two, confOf("5 xxxxxx 2 -", "5 xxxxxx 2 -", "", ""), 3, map[int]string{0: "xxxxxx"}, map[int]string{3: "xxxxxx"}},
		{two, once, 1, map[int]string{-1: "00xxxx", 1: "1xxxx1", 2: "01xxxx", 0: "1xxxx0"}, map[int]string{1: "xxxxxx", 2: "0xxxxx"}},
		{two, once, 2, map[int]string{-1: "00xxxx", 2: "01xxxx", 0: "1xxxxx"}, map[int]string{2: "xxxxxx", 1: "00xxxx"}},
		{tail, turn, 1, map[int]string{-1: "xxxxxx"}, map[int]string{1: "xxxxxx", 2: "xxxxxx", 3: "xxxxxx"}},
		{tail, turn, 4, map[int]string{-1: "xxxxxx"}, map[int]string{1: "xxxxxx", 2: "xxxxxx", 3: "xxxxxx", 4: "xxxxxx"}},
		{tail, withTable(turn, 3, rulesOf("5 xxxx01 2 0", "4 xxxx11 0 -", "3 xxxx00 4 -")), 4, map[int]string{3: "xxxx0x", 0: "xxxx1x"}, map[int]string{1: "xxxxxx", 2: "xxxxxx", 3: "xxxxxx", 4: "xxxxxx"}},
		{tail, withTable(turn, 4, rulesOf("5 xxxxx1 1 -", "4 11xxxx 4 -")), 4, map[int]string{-1: "xxxxx1", 4: "11xxx0", 0: "0xxxx0 10xxx0"}, map[int]string{1: "xxxxx1", 2: "xxxxx1", 3: "xxxxx1", 4: "xxxxxx"}},
		{ringNet(), countingConf("5 xxxx11 2 0"), 3, map[int]string{-1: "xxxxxx"}, map[int]string{1: "xxxxxx", 2: "xxxxxx", 3: "xxxxxx", 4: "xxxxxx"}},
		{ringNet(), countingConf("5 xxxx11 4 0"), 1, map[int]string{4: "xxxxxx"}, map[int]string{1: "xxxxxx", 2: "xxxxxx", 3: "xxxxxx", 4: "xxxxxx"}},
		{ringNet(), countingConf("5 xxxx11 0 0"), 2, map[int]string{0: "xxxxxx"}, map[int]string{1: "xxxx0x xxxx10", 2: "xxxxxx", 3: "xxxxxx", 4: "xxxxxx"}},
		{ringNet(), countingConf("5 xxxx11 4 0"), 4, map[int]string{4: "xxxxxx"}, map[int]string{1: "xxxx0x xxxx10", 2: "xxxx0x xxxx10", 3: "xxxx0x xxxx10", 4: "xxxxxx"}},
		{ringNet(), countingConf("5 0xxx11 4 -, 4 10xx11 2 1"), 1, map[int]string{4: "0xxxxx", -1: "10xxxx", 0: "11xxxx"}, map[int]string{1: "xxxxxx", 2: "xxxxxx", 3: "xxxxxx", 4: "xxxxxx"}},
		{netOf("1.1 2.1"), ends, 1, map[int]string{1: "100xxx", 2: "000xxx", 0: "x01xxx x1xxxx"}, map[int]string{1: "xxxxxx", 2: "0xxxxx"}},
		{netOf("1.1 2.1"), ends, 2, map[int]string{2: "000xxx", 0: "001xxx 01xxxx 1xxxxx"}, map[int]string{2: "xxxxxx"}},
		{netOf("4.3 1.1"), ends, 1, map[int]string{1: "100xxx", 0: "0xxxxx 101xxx 11xxxx"}, map[int]string{1: "xxxxxx", 4: "0xxxxx"}},
		{nil, ends, 1, map[int]string{1: "100xxx", 0: "0xxxxx 101xxx 11xxxx"}, map[int]string{1: "xxxxxx"}},
		{nil, make([][]impl.Rule, 4), 2, map[int]string{0: "xxxxxx"}, map[int]string{2: "xxxxxx"}},
		{fullNet(), hostConf(), 4, map[int]string{4: "xxxxxx"}, map[int]string{4: "xxxxxx"}},
	} {
		checkReachCase(t, k)
	}
}

// Walks of every length before they end and before they go round, each with the switches that it visits.
func TestReachPlanned(t *testing.T) {
	for _, p := range plannedWalks() {
		first := p.way[0]
		for to := -1; to <= 4; to++ {
			if got := impl.ReachTo(p.n, p.c, first.Sw, to); (spaceSet(got)>>impl.HeadNum(first.Head)&1 == 1) != (to == p.wantEnd()) {
				t.Fatalf("ReachTo(%v, %v, %d, %d) is %v, and a walk\n%v", p.n, p.c, first.Sw, to, got, p.walk)
			}
		}
		for _, sw := range allSwitches() {
			if got := impl.ReachVia(p.n, p.c, first.Sw, sw); (spaceSet(got)>>impl.HeadNum(first.Head)&1 == 1) != p.visits(sw) {
				t.Fatalf("ReachVia(%v, %v, %d, %d) is %v, and a walk\n%v", p.n, p.c, first.Sw, sw, got, p.walk)
			}
		}
		if p.long() {
			checkFree(t, p.n, p.c, false)
		}
	}
}

// Every configuration of one rule a switch at most, with one starting switch, one end and one visited switch each.
func TestReachOneRule(t *testing.T) {
	for _, n := range [][]impl.Link{ringNet(), fullNet(), lineNet(), netOf("1.1 2.2", "2.3 3.3", "3.1 4.1", "4.2 1.2", "1.3 2.1", "3.2 4.3")} {
		for i, c := range oneRuleConfs() {
			from, sw := 1+i%4, 1+i/4%4
			var to [6]uint64
			var via uint64
			// The rules tell apart no Src, no Dst and no Tag, so that every header goes as the first one does.
			w := wantWalk(n, c, impl.Spot{Sw: from})
			to[w.wantEnd()+1] = allHeads
			if w.visits(sw) {
				via = allHeads
			}
			checkTo(t, n, c, from, w.wantEnd(), []string{"xxxxxx"})
			checkTo(t, n, c, from, i%6-1, wantSpace(to[i%6]))
			checkVia(t, n, c, from, sw, wantSpace(via))
			if w.long() {
				checkFree(t, n, c, false)
			}
		}
	}
}

// sentSets is sets of headers of many kinds, none with more than 48 headers and none whose canonical list is longer.
func sentSets() []uint64 {
	draw := rand.New(rand.NewPCG(23, 23))
	l := []uint64{0, 1, 1 << 63, longestSet(), ^longestSet()}
	for _, positions := range [][3]int{{0, 2, 4}, {0, 1, 5}, {3, 4, 5}, {1, 3, 5}} {
		l = append(l, cubeSets(positions)...)
	}
	for _, s := range someSpaces() {
		l = append(l, spaceSet(s))
	}
	for range 100 {
		l = append(l, draw.Uint64(), draw.Uint64()&draw.Uint64(), draw.Uint64()|draw.Uint64())
	}
	return slices.DeleteFunc(l, func(set uint64) bool { return setCount(set) > 48 })
}

// sentTables is tables in which the headers of a set go to a port by rules that differ from table to table, and the others are dropped. The tags that they write are of no account.
func sentTables(set uint64, out int) [][]impl.Rule {
	var heads, canonical, backward, rest []impl.Rule
	for i, w := range wantSpace(set) {
		canonical = append(canonical, impl.Rule{Prio: 3, Match: w, Out: out, Tag: -1})
		backward = append(backward, impl.Rule{Prio: i % 10, Match: w, Out: out, Tag: i % 4})
	}
	for i, w := range headList(set) {
		heads = append(heads, impl.Rule{Prio: 9 - i/5, Match: w, Out: out, Tag: i%5 - 1})
	}
	for i, w := range wantSpace(^set) {
		rest = append(rest, impl.Rule{Prio: 5 + i%2, Match: w, Out: 0, Tag: i%5 - 1})
	}
	rest = append(rest, impl.Rule{Prio: 1, Match: "0xxxxx", Out: out, Tag: 2}, impl.Rule{Prio: 0, Match: "xxxxxx", Out: out, Tag: 1})
	return [][]impl.Rule{inOrder(heads), inOrder(canonical), inOrder(backward), inOrder(rest)}
}

// The same headers always give the same list, also where rules with other tags sent them on, or where they come to the host from the switch behind.
func TestReachCanonical(t *testing.T) {
	for i, set := range sentSets() {
		list, rest := wantSpace(set), wantSpace(^set)
		from := 1 + i%4
		next := from%4 + 1
		for j, table := range sentTables(set, 4) {
			c := withTable(hostConf(), from, table)
			checkTo(t, nil, c, from, from, list)
			checkTo(t, ringNet(), c, from, 0, rest)
			sent := withTable(hostConf(), from, sentTables(set, ringPort(from))[j])
			checkTo(t, ringNet(), sent, from, next, list)
			checkVia(t, ringNet(), sent, from, next, list)
			checkTo(t, ringNet(), sent, from, 0, rest)
		}
	}
	for _, w := range reachConfs() {
		for _, from := range allSwitches() {
			for to := -1; to <= 4; to++ {
				got := impl.ReachTo(w.n, w.c, from, to)
				checkTo(t, w.n, w.c, from, to, impl.SpaceTidy(got))
			}
			for _, sw := range allSwitches() {
				got := impl.ReachVia(w.n, w.c, from, sw)
				checkVia(t, w.n, w.c, from, sw, impl.SpaceTidy(got))
			}
		}
	}
}

// ringPort is the port of a switch that leads to the next one in ringNet.
func ringPort(sw int) int {
	return portTo(ringNet(), sw, sw%4+1)
}

// noEnds is numbers that are no end.
func noEnds() []int {
	return append(ruleNumbers(-1, impl.SwitchMax), -2, impl.SwitchMax+1, math.MinInt, math.MaxInt)
}

// Every end, and numbers that are none, alone.
func TestReachNoEnd(t *testing.T) {
	c := confOf("9 00xxxx 4 -, 8 01xxxx 0 -, 7 10xxxx 1 -, 6 110xxx 2 -", "5 xxxxx1 1 -, 4 xxxxx0 4 -", "5 0xxxxx 4 -, 4 xxxxxx 2 -", "5 xxxxxx 4 -")
	for to, want := range map[int]string{-1: "10xxx1", 0: "01xxxx 111xxx", 1: "00xxxx", 2: "10xxx0", 3: "", 4: "110xxx", -2: "", 5: "", math.MinInt: "", math.MaxInt: ""} {
		checkTo(t, netOf("1.1 2.1", "1.2 4.1"), c, 1, to, strings.Fields(want))
	}
	for _, w := range append(namedConfs(), drawnConfs(120, 23)...) {
		for _, no := range noEnds() {
			for _, from := range allSwitches() {
				checkTo(t, w.n, w.c, from, no, nil)
			}
		}
	}
	for _, no := range noEnds() {
		for _, from := range allSwitches() {
			checkTo(t, nil, make([][]impl.Rule, 4), from, no, nil)
			checkTo(t, ringNet(), hostConf(), from, no, nil)
			checkTo(t, ringNet(), countingConf("5 xxxx11 2 0"), from, no, nil)
		}
	}
}

// A starting or a visited switch that there is not, alone and both.
func TestReachNoSwitch(t *testing.T) {
	for _, w := range append(namedConfs(), drawnConfs(60, 23)...) {
		for i, no := range noSwitches() {
			for to := -1; to <= 4; to++ {
				checkTo(t, w.n, w.c, no, to, nil)
			}
			checkTo(t, w.n, w.c, no, no, nil)
			for _, sw := range allSwitches() {
				checkVia(t, w.n, w.c, no, sw, nil)
				checkVia(t, w.n, w.c, sw, no, nil)
			}
			checkVia(t, w.n, w.c, no, no, nil)
			checkVia(t, w.n, w.c, no, noSwitches()[(i+1)%len(noSwitches())], nil)
		}
	}
}

// Links that are no network, alone: also where no packet needs a link.
func TestReachNoNet(t *testing.T) {
	for i, n := range noNets() {
		for j, c := range [][][]impl.Rule{make([][]impl.Rule, 4), hostConf(), countingConf("5 xxxx11 4 -"), countingConf("5 xxxx11 2 0")} {
			checkNoReach(t, n, c, 5*i+j)
		}
		for _, from := range allSwitches() {
			for other := -1; other <= 4; other++ {
				checkEmptyReach(t, n, hostConf(), from, other, other)
			}
		}
	}
}

// noConfs is tables that are no configuration: none, one less or more, and an invalid one at each switch.
func noConfs() [][][]impl.Rule {
	confs := append([][][]impl.Rule{nil, {}, make([][]impl.Rule, 3), make([][]impl.Rule, 5), hostConf()[:3], hostConf()[1:], append(hostConf(), nil), append(hostConf(), hostConf()...)}, invalidConfs()...)
	for i, no := range noTables() {
		sw := 1 + i%4
		confs = append(confs, withTable(hostConf(), sw, no), withTable(make([][]impl.Rule, 4), sw, no))
		if i%16 == 0 {
			confs = append(confs, [][]impl.Rule{no, no, no, no}, withTable(withTable(hostConf(), sw, no), sw%4+1, no), append(hostConf(), no), [][]impl.Rule{no})
		}
	}
	return confs
}

// Tables that are no configuration, alone, also where no packet comes to the invalid one.
func TestReachNoConf(t *testing.T) {
	for i, c := range noConfs() {
		checkNoReach(t, ringNet(), c, i)
		checkNoReach(t, nil, c, i/4)
		if i >= 64 {
			continue
		}
		for _, from := range allSwitches() {
			for other := -1; other <= 4; other++ {
				checkEmptyReach(t, ringNet(), c, from, other, other)
			}
		}
	}
	for sw, c := range invalidConfs() {
		for _, from := range allSwitches() {
			for other := -1; other <= 4; other++ {
				checkEmptyReach(t, nil, c, from, other, 1+sw%4)
			}
		}
	}
}

// Several invalid arguments together.
func TestReachNoneTogether(t *testing.T) {
	nets := append(takenNets()[:6], ringNet())
	confs := append([][][]impl.Rule{nil, make([][]impl.Rule, 3), make([][]impl.Rule, 5)}, invalidConfs()...)
	confs = append(confs, hostConf())
	for i, n := range nets {
		for j, c := range confs {
			for k, from := range append(noSwitches(), 1, 4) {
				for l, other := range append(noEnds(), 1, 4) {
					if i < len(nets)-1 || j < len(confs)-1 || k < len(noSwitches()) || l < len(noEnds()) {
						checkEmptyReach(t, n, c, from, other, other)
					}
				}
			}
			if i < len(nets)-1 || j < len(confs)-1 {
				checkNoReach(t, n, c, i+j)
			}
		}
	}
}

// Each of the two configurations invalid, in another way than the other or in the same, and also links that are no network.
func TestReachSameInvalid(t *testing.T) {
	no := append([][][]impl.Rule{nil, {}, make([][]impl.Rule, 3), make([][]impl.Rule, 5), hostConf()[:3], append(hostConf(), nil)}, invalidConfs()...)
	good := [][][]impl.Rule{make([][]impl.Rule, 4), hostConf(), countingConf("5 xxxx11 2 0")}
	for _, a := range slices.Concat(no, good) {
		for _, b := range slices.Concat(no, good) {
			for _, n := range [][]impl.Link{nil, ringNet(), fullNet(), takenNets()[0], make([]impl.Link, 7)} {
				want := wantNetOk(n) && impl.ConfOk(a) && impl.ConfOk(b) && toLists(n, a) == toLists(n, b)
				if impl.ReachSame(n, a, b) != want {
					t.Fatalf("ReachSame(%v, %v, %v) is %v", n, a, b, !want)
				}
			}
		}
	}
	for _, c := range good {
		for _, n := range [][]impl.Link{nil, ringNet(), fullNet()} {
			if !impl.ReachSame(n, c, c) || !impl.ReachSame(n, c, cloneConf(c)) {
				t.Errorf("ReachSame(%v) of %v and itself is false", n, c)
			}
		}
	}
}

// Tables that differ and do the same to every walk, by other paths, other drops, other rounds or other tags at the end, and some that do not.
func TestReachSameCases(t *testing.T) {
	line, two := lineNet(), netOf("1.2 2.2", "2.1 1.3")
	there := confOf("5 xxxxxx 1 -", "5 xxxxxx 2 -", "5 xxxxxx 4 -", "5 xxxxxx 1 -")
	for i, k := range []struct {
		confPair
		want bool
	}{
		{confPair{ringNet(), there, withTable(there, 1, rulesOf("5 xxxxxx 2 -"))}, true},
		{confPair{ringNet(), there, withTable(there, 1, rulesOf("5 0xxxx1 1 3", "4 xxxxxx 2 0"))}, true},
		{confPair{ringNet(), there, withTable(there, 4, rulesOf("5 xxxxxx 2 1"))}, true},
		{confPair{ringNet(), there, withTable(withTable(there, 1, rulesOf("5 xxxxxx 2 -")), 4, rulesOf("5 xxxxxx 2 -"))}, false},
		{confPair{ringNet(), there, withTable(there, 3, rulesOf("5 xxxxxx 4 2"))}, true},
		{confPair{ringNet(), there, withTable(there, 3, rulesOf("5 000000 2 2", "4 xxxxxx 4 1"))}, true},
		{confPair{ringNet(), there, withTable(there, 3, rulesOf("5 000000 2 0", "4 xxxxxx 4 1"))}, false},
		{confPair{line, confOf("", "", "", ""), confOf("5 xxxxxx 0 3", "5 xxxxxx 3 -", "5 x1xxxx 3 0", "5 xxxxxx 2 1")}, true},
		{confPair{line, confOf("", "", "", ""), confOf("5 xxxxxx 1 3", "5 xxxxxx 2 -", "5 xxxx1x 2 0", "5 xxxxxx 2 1")}, true},
		{confPair{line, confOf("", "", "", ""), confOf("5 xxxxxx 1 3", "5 xxxxxx 2 -", "5 xxxx1x 2 0", "5 0xxxxx 2 1, 4 111110 4 -")}, false},
		{confPair{two, confOf("5 xxxxxx 2 -", "5 xxxxxx 1 -", "", ""), confOf("5 xxxxxx 3 1", "5 xxxxxx 2 0", "", "")}, true},
		{confPair{two, confOf("5 xxxxxx 2 -", "5 xxxxxx 1 -", "", ""), confOf("5 xxxxxx 3 1", "5 xxxxxx 2 0", "5 xxxxxx 1 -", "")}, true},
		{confPair{two, confOf("5 xxxxxx 2 -", "5 xxxxxx 1 -", "", ""), confOf("5 xxxxxx 3 1", "5 xxxxx1 2 0, 4 1xxxxx 2 2, 4 0xxxx0 2 -", "", "")}, true},
		{confPair{two, confOf("5 xxxxxx 2 -", "5 xxxxxx 1 -", "", ""), confOf("5 xxxxxx 3 1", "5 xxxxx1 2 0, 4 1xxxxx 2 2, 4 00xxx0 2 -", "", "")}, false},
		{confPair{nil, there, confOf("5 xxxxxx 0 -", "", "5 0xxxxx 4 1, 5 1xxxxx 4 0", "5 xxxxxx 2 -")}, true},
		{confPair{nil, there, confOf("5 xxxxxx 0 -", "", "5 0xxxxx 4 1, 5 1xxxxx 4 0", "5 xxxxxx 4 -")}, false},
	} {
		if sameConf(k.a, k.b) || checkSameReach(t, k.confPair) != k.want {
			t.Errorf("pair %d: %v and %v of %v", i, k.a, k.b, k.n)
		}
	}
}

// Two configurations that differ for one header at one starting switch alone: in its host, in a drop, or in going round.
func TestReachSameOneHeader(t *testing.T) {
	base := confOf("5 xxxx11 1 -, 4 xxxxxx 4 -", "5 xxxx11 2 -, 4 xxxxxx 4 -", "5 xxxx11 2 -, 4 xxxxxx 4 -", "5 xxxx11 2 -, 4 xxxxxx 4 -")
	want := wantReach(ringNet(), base)
	for i, s := range everySpot() {
		if s.Head.Tag == 3 {
			continue
		}
		next := s.Sw%4 + 1
		for to, r := range map[int]impl.Rule{next: {Out: ringPort(s.Sw), Tag: i%4 - 1}, 0: {Out: 3 * (i % 2), Tag: i%5 - 1}, -1: {Out: ringPort(s.Sw), Tag: 3}, s.Sw: {Out: 4, Tag: 3}} {
			if to == next {
				r.Tag = min(r.Tag, 1)
			}
			r.Prio, r.Match = 9, impl.WildOf(s.Head)
			c := withTable(base, s.Sw, withRule(base[s.Sw-1], r))
			other := want
			other.to[s.Sw][s.Sw+1] &^= 1 << (i % 64)
			other.to[s.Sw][to+1] |= 1 << (i % 64)
			if got := wantReach(ringNet(), c); got.to != other.to {
				t.Fatalf("%v does not differ from %v for %v alone", c, base, s)
			}
			for _, p := range []confPair{{ringNet(), base, c}, {ringNet(), c, base}} {
				if impl.ReachSame(p.n, p.a, p.b) != (to == s.Sw) {
					t.Fatalf("ReachSame(%v, %v, %v) is %v", p.n, p.a, p.b, to != s.Sw)
				}
			}
		}
	}
}

// reachLists is the results of ReachTo and ReachVia, in the order in which checkReach asks for them.
func reachLists(n []impl.Link, c [][]impl.Rule) [][]string {
	var l [][]string
	for _, from := range allSwitches() {
		for to := -1; to <= 4; to++ {
			l = append(l, impl.ReachTo(n, c, from, to))
		}
		for _, sw := range allSwitches() {
			l = append(l, impl.ReachVia(n, c, from, sw))
		}
	}
	return l
}

// No result shares memory with another one, also of the same call, nor with the arguments, and filling all of them changes nothing.
func TestReachOwnMemory(t *testing.T) {
	for i, w := range reachConfs() {
		if i%3 != 0 {
			continue
		}
		n, c := ownNet(w.n), ownConf(w.c)
		lists := append(reachLists(n, c), reachLists(n, c)...)
		var texts, matches []string
		for j, a := range lists {
			for _, b := range lists[:j] {
				if slicesMeet(a, b) {
					t.Fatalf("of %v and %v, the results %q and %q share memory", n, c, a, b)
				}
			}
			texts = append(texts, a...)
		}
		for _, table := range c {
			for _, r := range table {
				matches = append(matches, r.Match)
			}
		}
		for j, text := range texts {
			for _, other := range slices.Concat(texts[:j], matches) {
				if bytesMeet(text, other) {
					t.Fatalf("of %v and %v, %q shares memory with %q", n, c, text, other)
				}
			}
		}
		for _, a := range lists {
			fill(a, "changed")
		}
		checkReach(t, n, c, wantReach(w.n, w.c))
	}
}

// checkReachKeeps calls each function once, and ReachSame with each order of its configurations and the same one twice.
func checkReachKeeps(t *testing.T, n []impl.Link, c [][]impl.Rule, from int, to int) {
	t.Helper()
	checkCallsKeep(t, n, c, []func(n []impl.Link, c [][]impl.Rule){
		func(n []impl.Link, c [][]impl.Rule) { impl.ReachTo(n, c, from, to) },
		func(n []impl.Link, c [][]impl.Rule) { impl.ReachVia(n, c, from, to) },
		func(n []impl.Link, c [][]impl.Rule) { impl.ReachFree(n, c) },
		func(n []impl.Link, c [][]impl.Rule) { impl.ReachSame(n, c, c) },
		func(n []impl.Link, c [][]impl.Rule) { impl.ReachSame(n, c, hostConf()) },
		func(n []impl.Link, c [][]impl.Rule) { impl.ReachSame(n, hostConf(), c) },
	})
}

// The arguments are as they were, and what is behind the ends of the slices does not count.
func TestReachArgumentsKept(t *testing.T) {
	for i, w := range reachConfs() {
		n, c := ownNet(w.n), ownConf(w.c)
		checkReach(t, n, c, wantReach(w.n, w.c))
		checkNoReach(t, n, c[:3], i)
		checkNoReach(t, n, c[:5], i)
		checkReachKeeps(t, w.n, w.c, 1+i%4, i/4%4+1)
		checkReachKeeps(t, w.n, w.c, 1+i%4, -1)
		checkReachKeeps(t, w.n, w.c, 5, 5)
		checkReachKeeps(t, w.n, w.c[:3], 1, 1)
		checkReachKeeps(t, w.n, append(slices.Clone(w.c), nil), 1, 1)
	}
	for i, no := range noTables() {
		checkReachKeeps(t, fullNet(), withTable(hostConf(), 1+i%4, no), 1+i/4%4, 1)
	}
	for _, no := range noNets() {
		checkReachKeeps(t, no, countingConf("5 xxxx11 2 0"), 1, -1)
	}
}

// The same call many times in a row gives the same answer, also with other calls in between.
func TestReachAgain(t *testing.T) {
	confs := append(namedConfs(), drawnHeadConfs(4, 1)...)
	for i, w := range confs {
		want, other := wantReach(w.n, w.c), confs[(i+1)%len(confs)].c
		same := want.to == wantReach(w.n, other).to
		for range 30 {
			checkReach(t, w.n, w.c, want)
			if impl.ReachSame(w.n, w.c, other) != same || !impl.ReachSame(w.n, w.c, w.c) {
				t.Fatalf("ReachSame(%v, %v, %v) is %v", w.n, w.c, other, !same)
			}
		}
	}
	for i := range 1000 {
		w := confs[i*i%len(confs)]
		from, to := 1+i%4, i/4%6-1
		got := impl.ReachTo(w.n, w.c, from, to)
		checkNoReach(t, w.n, w.c[:3], i)
		checkEmptyReach(t, w.n, w.c, 0, 1, 1)
		if other := confs[(i+1)%len(confs)]; i%2 == 0 {
			impl.ReachSame(w.n, w.c, other.c)
			impl.ReachFree(other.n, other.c)
		}
		checkTo(t, w.n, w.c, from, to, got)
	}
}
