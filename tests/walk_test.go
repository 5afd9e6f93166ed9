package tests

import (
	"fmt"
	"math"
	"math/rand/v2"
	"slices"
	"strings"
	"sync"
	"testing"

	"loop.example/crossbuck/impl"
)

// walk is the results of WalkAll.
type walk struct {
	way  []impl.Spot
	last impl.Spot
	code int
}

// plannedWalk is a walk that a configuration was made for.
type plannedWalk struct {
	n []impl.Link
	c [][]impl.Rule
	walk
}

// wired is a network and a configuration of it.
type wired struct {
	n []impl.Link
	c [][]impl.Rule
}

// confOf is the tables of some texts, each of rules in any order, with commas in between.
func confOf(texts ...string) [][]impl.Rule {
	var c [][]impl.Rule
	for _, text := range texts {
		var table []impl.Rule
		if text != "" {
			table = inOrder(rulesOf(strings.Split(text, ", ")...))
		}
		c = append(c, table)
	}
	return c
}

// spotsOf is the packets of a text, such as "1:2.0.3 4:2.0.0" for one at switch 1 and one at switch 4.
func spotsOf(text string) []impl.Spot {
	var l []impl.Spot
	for _, word := range strings.Fields(text) {
		var s impl.Spot
		if _, err := fmt.Sscanf(word, "%d:%d.%d.%d", &s.Sw, &s.Head.Src, &s.Head.Dst, &s.Head.Tag); err != nil {
			panic("no packet: " + word)
		}
		l = append(l, s)
	}
	return l
}

func spotOf(text string) impl.Spot {
	return spotsOf(text)[0]
}

// everySpot is every valid header at every switch.
func everySpot() []impl.Spot {
	var l []impl.Spot
	for sw := 1; sw <= 4; sw++ {
		for _, h := range validHeads() {
			l = append(l, impl.Spot{Sw: sw, Head: h})
		}
	}
	return l
}

func cloneConf(c [][]impl.Rule) [][]impl.Rule {
	l := [][]impl.Rule{}
	for _, table := range c {
		l = append(l, slices.Clone(table))
	}
	return l
}

// withTable is a configuration with the table of a switch replaced.
func withTable(c [][]impl.Rule, sw int, table []impl.Rule) [][]impl.Rule {
	l := slices.Clone(c)
	l[sw-1] = table
	return l
}

// wantStep is WalkStep, by the document's definition.
func wantStep(n []impl.Link, c [][]impl.Rule, s impl.Spot) (impl.Spot, int) {
	h, port := wantDo(c[s.Sw-1], 16*s.Head.Src+4*s.Head.Dst+s.Head.Tag)
	if port == 4 {
		return impl.Spot{Sw: s.Sw, Head: h}, 2
	}
	if peer := wantPeer(n, netSide{s.Sw, port}); peer != (netSide{}) {
		return impl.Spot{Sw: peer.sw, Head: h}, 1
	}
	return s, 3
}

// wantWalk is WalkAll, by the document's definition.
func wantWalk(n []impl.Link, c [][]impl.Rule, s impl.Spot) walk {
	w := walk{last: s, code: 1}
	for len(w.way) < 16 && w.code == 1 {
		w.way = append(w.way, w.last)
		w.last, w.code = wantStep(n, c, w.last)
	}
	if w.code == 1 {
		w.code = 4
	}
	return w
}

// wantEnd is WalkEnd of a walk.
func (w walk) wantEnd() int {
	switch w.code {
	case 2:
		return w.last.Sw
	case 3:
		return 0
	}
	return -1
}

// long is whether a walk is too long.
func (w walk) long() bool {
	return w.code == 4
}

// visits is whether a walk comes to a switch.
func (w walk) visits(sw int) bool {
	return slices.ContainsFunc(w.way, func(s impl.Spot) bool { return s.Sw == sw })
}

// rest is what is left of a walk from an entry on.
func (w walk) rest(at int) walk {
	return walk{w.way[at:], w.last, w.code}
}

func sameWalk(a walk, b walk) bool {
	return slices.Equal(a.way, b.way) && a.last == b.last && a.code == b.code
}

func walkOf(n []impl.Link, c [][]impl.Rule, s impl.Spot) walk {
	way, last, code := impl.WalkAll(n, c, s)
	return walk{way, last, code}
}

func checkWalk(t *testing.T, n []impl.Link, c [][]impl.Rule, s impl.Spot, want walk) {
	t.Helper()
	if got := walkOf(n, c, s); !sameWalk(got, want) {
		t.Fatalf("WalkAll(%v, %v, %v) is\n%v, not\n%v", n, c, s, got, want)
	}
	if end := impl.WalkEnd(n, c, s); end != want.wantEnd() {
		t.Fatalf("WalkEnd(%v, %v, %v) is %d", n, c, s, end)
	}
}

func checkStep(t *testing.T, n []impl.Link, c [][]impl.Rule, s impl.Spot) {
	t.Helper()
	want, wantCode := wantStep(n, c, s)
	if next, code := impl.WalkStep(n, c, s); next != want || code != wantCode {
		t.Fatalf("WalkStep(%v, %v, %v) is %v, %d", n, c, s, next, code)
	}
}

func checkConfOk(t *testing.T, c [][]impl.Rule, want bool) {
	t.Helper()
	if impl.ConfOk(c) != want {
		t.Fatalf("ConfOk(%v) is %v", c, !want)
	}
}

// checkNoWalk is what the functions say where an argument is invalid.
func checkNoWalk(t *testing.T, n []impl.Link, c [][]impl.Rule, s impl.Spot) {
	t.Helper()
	if next, code := impl.WalkStep(n, c, s); next != (impl.Spot{}) || code != 0 {
		t.Fatalf("WalkStep(%v, %v, %v) is %v, %d", n, c, s, next, code)
	}
	if way, last, code := impl.WalkAll(n, c, s); len(way) != 0 || last != (impl.Spot{}) || code != 0 {
		t.Fatalf("WalkAll(%v, %v, %v) is %v, %v, %d", n, c, s, way, last, code)
	}
	if end := impl.WalkEnd(n, c, s); end != -2 {
		t.Fatalf("WalkEnd(%v, %v, %v) is %d", n, c, s, end)
	}
}

// drawnPath is a path of so many packets at some switches, no two of them the same, and each at another switch than the one before. Src and Dst stay as they are.
func drawnPath(draw *rand.Rand, switches []int, count int) []impl.Spot {
	for {
		s := impl.Spot{Sw: switches[draw.IntN(len(switches))], Head: validHeads()[draw.IntN(64)]}
		path := []impl.Spot{s}
		for tries := 0; len(path) < count && tries < 60; tries++ {
			next := impl.Spot{Sw: switches[draw.IntN(len(switches))], Head: s.Head}
			next.Head.Tag = draw.IntN(4)
			if next.Sw != s.Sw && !slices.Contains(path, next) {
				s = next
				path = append(path, s)
			}
		}
		if len(path) == count {
			return path
		}
	}
}

func allSwitches() []int {
	return []int{1, 2, 3, 4}
}

// portTo is the smallest port of a switch whose peer is another one, and 0 without one.
func portTo(n []impl.Link, sw int, to int) int {
	for port := 1; port <= 3; port++ {
		if wantPeer(n, netSide{sw, port}).sw == to {
			return port
		}
	}
	return 0
}

// pathConf is a configuration under which each packet of a path becomes the next one. What becomes of the last, no rule says.
func pathConf(draw *rand.Rand, n []impl.Link, path []impl.Spot) [][]impl.Rule {
	c := make([][]impl.Rule, 4)
	for i, s := range path[:len(path)-1] {
		next := path[i+1]
		c = withSpotRule(draw, c, s, portTo(n, s.Sw, next.Sw), next.Head.Tag)
	}
	return c
}

// withSpotRule is a configuration with a rule for a packet, which writes a tag also where that stays, but not always.
func withSpotRule(draw *rand.Rand, c [][]impl.Rule, s impl.Spot, out int, tag int) [][]impl.Rule {
	if tag == s.Head.Tag && draw.IntN(2) == 0 {
		tag = -1
	}
	match := impl.WildOf(s.Head)
	if draw.IntN(2) == 0 {
		match = "xxxx" + match[4:]
	}
	return withTable(c, s.Sw, withRule(c[s.Sw-1], impl.Rule{Prio: draw.IntN(10), Match: match, Out: out, Tag: tag}))
}

// roundWalk is a walk that comes, after so many packets, to the one at an index again.
func roundWalk(draw *rand.Rand, count int, first int) plannedWalk {
	path := drawnPath(draw, allSwitches(), count)
	for path[count-1].Sw == path[first].Sw {
		path = drawnPath(draw, allSwitches(), count)
	}
	n := drawOrder(draw, fullNet())
	p := plannedWalk{n: n, c: pathConf(draw, n, append(slices.Clone(path), path[first]))}
	for i := range 17 {
		if i >= count {
			path = append(path, path[i-count+first])
		}
	}
	p.walk = walk{path[:16], path[16], 4}
	return p
}

// roundWalks is a walk for every number of packets before it goes round, and every number that it goes round.
func roundWalks() []plannedWalk {
	draw := rand.New(rand.NewPCG(79, 22))
	var l []plannedWalk
	for count := 2; count <= 16; count++ {
		for first := range count - 1 {
			for range 3 {
				l = append(l, roundWalk(draw, count, first))
			}
		}
	}
	return l
}

// endedWalks is walks of every length that end in every way: at the host, with a tag that stays and with each tag, and dropped by port 0, by no rule, and by a port without a link, with a tag that would be written and without.
func endedWalks() []plannedWalk {
	draw := rand.New(rand.NewPCG(80, 22))
	var l []plannedWalk
	for count := 1; count <= 16; count++ {
		for tag := -1; tag <= 3; tag++ {
			for range 3 {
				l = append(l, hostWalk(draw, count, tag), dropWalk(draw, count, tag), noLinkWalk(draw, count, tag))
			}
		}
		n, path := drawOrder(draw, fullNet()), drawnPath(draw, allSwitches(), count)
		l = append(l, plannedWalk{n, pathConf(draw, n, path), walk{path, path[count-1], 3}})
	}
	return l
}

func hostWalk(draw *rand.Rand, count int, tag int) plannedWalk {
	n, path := drawOrder(draw, fullNet()), drawnPath(draw, allSwitches(), count)
	last := path[count-1]
	c := withLastRule(pathConf(draw, n, path), last, 4, tag)
	if tag != -1 {
		last.Head.Tag = tag
	}
	return plannedWalk{n, c, walk{path, last, 2}}
}

func dropWalk(draw *rand.Rand, count int, tag int) plannedWalk {
	n, path := drawOrder(draw, fullNet()), drawnPath(draw, allSwitches(), count)
	return plannedWalk{n, withLastRule(pathConf(draw, n, path), path[count-1], 0, tag), walk{path, path[count-1], 3}}
}

// noLinkWalk is a walk over three switches alone, so that the port to the fourth has no link. There are twelve packets with one Src and Dst at them.
func noLinkWalk(draw *rand.Rand, count int, tag int) plannedWalk {
	count = min(count, 12)
	lone := 1 + draw.IntN(4)
	path := drawnPath(draw, slices.DeleteFunc(allSwitches(), func(sw int) bool { return sw == lone }), count)
	n := drawOrder(draw, fullNet())
	out := portTo(n, path[count-1].Sw, lone)
	n = slices.DeleteFunc(n, func(l impl.Link) bool { return l.A == lone || l.B == lone })
	return plannedWalk{n, withLastRule(pathConf(draw, n, path), path[count-1], out, tag), walk{path, path[count-1], 3}}
}

func withLastRule(c [][]impl.Rule, s impl.Spot, out int, tag int) [][]impl.Rule {
	return withTable(c, s.Sw, withRule(c[s.Sw-1], impl.Rule{Prio: 5, Match: impl.WildOf(s.Head), Out: out, Tag: tag}))
}

// plannedWalks is walks of every kind, each with the configuration made for it.
var plannedWalks = sync.OnceValue(func() []plannedWalk {
	return append(roundWalks(), endedWalks()...)
})

// oneRuleConfs is every configuration whose tables have at most one rule, which is for all headers and writes Tag 1 or none.
func oneRuleConfs() [][][]impl.Rule {
	tables := [][]impl.Rule{nil}
	for out := range 5 {
		tables = append(tables, []impl.Rule{{Prio: 5, Match: "xxxxxx", Out: out, Tag: -1}}, []impl.Rule{{Prio: 5, Match: "xxxxxx", Out: out, Tag: 1}})
	}
	var l [][][]impl.Rule
	for i := range 11 * 11 * 11 * 11 {
		l = append(l, [][]impl.Rule{tables[i/1331], tables[i/121%11], tables[i/11%11], tables[i%11]})
	}
	return l
}

// drawnConfs is networks and configurations drawn by a fixed seed: tables of any rules, and tables with rules for each tag, most of which send to a link.
func drawnConfs(count int, seed uint64) []wired {
	draw := rand.New(rand.NewPCG(seed, 22))
	nets := everyNet()
	l := []wired{}
	for i := range count {
		n := nets[draw.IntN(len(nets))]
		if i%2 == 0 {
			n = drawOrder(draw, namedNets()[7+draw.IntN(10)])
		}
		var c [][]impl.Rule
		for sw := 1; sw <= 4; sw++ {
			if i%4 == 3 {
				c = append(c, drawAnyTable(draw))
			} else {
				c = append(c, drawTagTable(draw))
			}
		}
		l = append(l, wired{n, c})
	}
	return l
}

func drawAnyTable(draw *rand.Rand) []impl.Rule {
	var table []impl.Rule
	free, length := 4+draw.IntN(6), draw.IntN(12)
	for range length {
		table = withRule(table, drawRule(draw, free, 10))
	}
	return table
}

func drawTagTable(draw *rand.Rand) []impl.Rule {
	var table []impl.Rule
	for _, tags := range []string{"00", "01", "10", "11"} {
		match := []string{"xxxx", "xxxx", "x0xx", "xx1x"}[draw.IntN(4)] + tags
		table = withRule(table, impl.Rule{Prio: draw.IntN(10), Match: match, Out: []int{1, 1, 2, 2, 3, 3, 4, 0}[draw.IntN(8)], Tag: draw.IntN(5) - 1})
	}
	return table
}

// namedConfs is networks and configurations that the document's definitions single out.
func namedConfs() []wired {
	two := netOf("1.2 2.2", "2.1 1.3")
	full := []string{"9 xxxxxx 4 -", "9 xxxxxx 1 -", "9 xxxxxx 2 3", "9 xxxxxx 3 0"}
	return []wired{
		{nil, confOf("", "", "", "")},
		{fullNet(), confOf("", "", "", "")},
		{nil, confOf(full...)},
		{fullNet(), confOf(full...)},
		{two, confOf("5 xxxxxx 2 -", "5 xxxxxx 1 -", "", "")},
		{ringNet(), confOf("5 xxxxxx 1 -", "5 xxxxxx 2 -", "5 xxxxxx 2 -", "5 xxxxxx 2 -")},
		{ringNet(), confOf("5 xxxxxx 2 1", "5 xxxxxx 1 2", "5 xxxxxx 1 3", "5 xxxxxx 1 0")},
		{ringNet(), countingConf("5 xxxx11 4 -")},
		{ringNet(), countingConf("5 xxxx11 2 0")},
		{fullNet(), [][]impl.Rule{headRules(48), headRules(47), oneMatchRules(48, "xxxxxx"), append(headRules(47), lastRule)}},
	}
}

// countingConf sends all packets round the ring from switch 1 on. Switch 4 adds one to each tag, or does with the greatest as the text of a rule says.
func countingConf(text string) [][]impl.Rule {
	return confOf("5 xxxxxx 1 -", "5 xxxxxx 2 -", "5 xxxxxx 2 -", "5 xxxx00 2 1, 5 xxxx01 2 2, 5 xxxx10 2 3, "+text)
}

// someConfs is named and drawn networks and configurations, and those of planned walks.
var someConfs = sync.OnceValue(func() []wired {
	l := append(namedConfs(), drawnConfs(160, 1)...)
	for i, p := range plannedWalks() {
		if i%7 == 0 {
			l = append(l, wired{p.n, p.c})
		}
	}
	return l
})

// What the configurations have to contain, so that the tests below mean something.
func TestWalkLimits(t *testing.T) {
	if impl.HopMax != 16 || impl.WalkOn != 1 || impl.WalkHost != 2 || impl.WalkDrop != 3 || impl.WalkLong != 4 {
		t.Errorf("HopMax and the codes are %d, %d, %d, %d and %d", impl.HopMax, impl.WalkOn, impl.WalkHost, impl.WalkDrop, impl.WalkLong)
	}
	var codes, lengths [17]int
	for _, w := range someConfs() {
		if !wantNetOk(w.n) || len(w.c) != 4 {
			t.Fatalf("%v and %v", w.n, w.c)
		}
		for _, s := range everySpot() {
			got := wantWalk(w.n, w.c, s)
			codes[got.code]++
			lengths[len(got.way)]++
		}
	}
	if slices.Min(codes[2:5]) < 2000 || slices.Min(lengths[1:]) < 10 {
		t.Errorf("%v walks by their code, and %v by their length", codes, lengths)
	}
	var planned [5]int
	for _, p := range plannedWalks() {
		planned[p.code]++
		if !wantNetOk(p.n) || !sameWalk(wantWalk(p.n, p.c, p.way[0]), p.walk) {
			t.Fatalf("%v and %v are not for %v", p.n, p.c, p.walk)
		}
	}
	if planned != [5]int{0, 0, 240, 496, 360} {
		t.Errorf("%v planned walks, by their code", planned)
	}
}

// Promise 76: every rule for all headers, at every switch, for every header and every network of some.
func TestWalkStepRules(t *testing.T) {
	for _, n := range [][]impl.Link{nil, netOf("1.2 2.2", "2.1 1.3"), ringNet(), fullNet()} {
		for sw := 1; sw <= 4; sw++ {
			for out := range 5 {
				for tag := -1; tag <= 3; tag++ {
					c := withTable(confOf("9 xxxxxx 0 3", "9 xxxxxx 4 3", "9 xxxxxx 1 3", ""), sw, []impl.Rule{{Prio: 5, Match: "xxxxxx", Out: out, Tag: tag}})
					for _, h := range validHeads() {
						checkStep(t, n, c, impl.Spot{Sw: sw, Head: h})
					}
				}
			}
		}
	}
}

// Promise 76, in its own words, also for the tables of chapter 12.
func TestWalkStepEach(t *testing.T) {
	l := slices.Clone(someConfs())
	tables := someTables()
	for i := range tables {
		l = append(l, wired{everyNet()[i*i*7], [][]impl.Rule{tables[i], tables[(i+1)%len(tables)], tables[(i+5)%len(tables)], tables[(i+11)%len(tables)]}})
	}
	for _, w := range l {
		for _, s := range everySpot() {
			checkStep(t, w.n, w.c, s)
			h, port := impl.TableDo(w.c[s.Sw-1], s.Head)
			sw, _, linked := impl.NetPeer(w.n, s.Sw, port)
			want, wantCode := s, impl.WalkDrop
			if port == impl.PortHost {
				want, wantCode = impl.Spot{Sw: s.Sw, Head: h}, impl.WalkHost
			} else if linked {
				want, wantCode = impl.Spot{Sw: sw, Head: h}, impl.WalkOn
			}
			if next, code := impl.WalkStep(w.n, w.c, s); next != want || code != wantCode {
				t.Fatalf("WalkStep(%v, %v, %v) is %v, %d", w.n, w.c, s, next, code)
			}
		}
	}
}

// Steps of some packets, written out.
func TestWalkStepCases(t *testing.T) {
	n := netOf("1.1 2.3", "3.2 1.3", "4.1 2.1")
	c := confOf("9 00xxxx 4 -, 8 01xxxx 4 2, 7 10xxxx 1 -, 6 1100xx 3 0, 5 1101xx 2 1, 4 1110xx 0 1", "5 xxxxxx 1 3", "5 xxxxxx 1 3", "")
	for _, k := range []struct {
		before, after string
		code          int
	}{
		{"1:0.1.3", "1:0.1.3", 2},
		{"1:1.0.3", "1:1.0.2", 2},
		{"1:2.3.1", "2:2.3.1", 1},
		{"1:3.0.1", "3:3.0.0", 1},
		{"1:3.1.2", "1:3.1.2", 3},
		{"1:3.2.2", "1:3.2.2", 3},
		{"1:3.3.2", "1:3.3.2", 3},
		{"2:3.3.2", "4:3.3.3", 1},
		{"3:0.0.0", "3:0.0.0", 3},
		{"4:1.1.1", "4:1.1.1", 3},
	} {
		if after, code := impl.WalkStep(n, c, spotOf(k.before)); after != spotOf(k.after) || code != k.code {
			t.Errorf("WalkStep of %s is %v, %d, not %s, %d", k.before, after, code, k.after, k.code)
		}
	}
}

// Promise 77, by the document's definition, of every packet of every header.
func TestWalkAllEach(t *testing.T) {
	for _, w := range slices.Concat(someConfs(), drawnConfs(200, 77)) {
		for _, s := range everySpot() {
			checkWalk(t, w.n, w.c, s, wantWalk(w.n, w.c, s))
		}
	}
}

// Promise 77: every walk by one rule of each switch.
func TestWalkAllOneRule(t *testing.T) {
	confs := oneRuleConfs()
	for _, n := range [][]impl.Link{ringNet(), fullNet(), netOf("1.1 2.1", "2.2 3.1", "3.2 4.1"), netOf("1.1 2.2", "2.3 3.3", "3.1 4.1", "4.2 1.2", "1.3 2.1", "3.2 4.3")} {
		for i, c := range confs {
			s := impl.Spot{Sw: 1 + i%4, Head: impl.Head{Src: 1, Dst: 2, Tag: i / 4 % 3}}
			checkWalk(t, n, c, s, wantWalk(n, c, s))
		}
	}
}

// Promise 77, in its own words.
func TestWalkAllSteps(t *testing.T) {
	for _, w := range someConfs() {
		for _, s := range everySpot() {
			got := walkOf(w.n, w.c, s)
			if len(got.way) < 1 || len(got.way) > impl.HopMax || got.way[0] != s {
				t.Fatalf("WalkAll(%v, %v, %v) is %v", w.n, w.c, s, got)
			}
			for i, before := range got.way {
				next, code := impl.WalkStep(w.n, w.c, before)
				want, wantCode := got.last, got.code
				if i+1 < len(got.way) {
					want, wantCode = got.way[i+1], impl.WalkOn
				} else if i+1 == impl.HopMax && code == impl.WalkOn {
					code = impl.WalkLong
				}
				if next != want || code != wantCode || wantCode == impl.WalkOn && i+1 == len(got.way) {
					t.Fatalf("WalkAll(%v, %v, %v) is %v, and WalkStep of entry %d is %v, %d", w.n, w.c, s, got, i, next, code)
				}
			}
		}
	}
}

// Promise 78. What a walk that is too long comes to is too long too.
func TestWalkAllRest(t *testing.T) {
	for _, w := range someConfs() {
		for _, s := range everySpot() {
			whole := walkOf(w.n, w.c, s)
			for i, entry := range whole.way {
				got := walkOf(w.n, w.c, entry)
				if !whole.long() && !sameWalk(got, whole.rest(i)) {
					t.Fatalf("WalkAll(%v, %v, %v) is %v, and of its entry %d %v", w.n, w.c, s, whole, i, got)
				}
				if whole.long() && (!got.long() || len(got.way) != impl.HopMax || !slices.Equal(got.way[:impl.HopMax-i], whole.way[i:])) {
					t.Fatalf("WalkAll(%v, %v, %v) is %v, and of its entry %d %v", w.n, w.c, s, whole, i, got)
				}
			}
		}
	}
}

// Promise 79.
func TestWalkAllTwice(t *testing.T) {
	for _, w := range slices.Concat(someConfs(), drawnConfs(100, 79)) {
		for _, s := range everySpot() {
			checkTwice(t, w.n, w.c, walkOf(w.n, w.c, s))
		}
	}
	for _, p := range plannedWalks() {
		checkTwice(t, p.n, p.c, walkOf(p.n, p.c, p.way[0]))
	}
}

// checkTwice counts the packet after the last step only where that goes to a switch: at the host, or dropped, it is where it was.
func checkTwice(t *testing.T, n []impl.Link, c [][]impl.Rule, w walk) {
	t.Helper()
	visits := slices.Clone(w.way)
	if w.long() {
		visits = append(visits, w.last)
	}
	seen := map[impl.Spot]bool{}
	for _, s := range visits {
		seen[s] = true
	}
	if twice := len(seen) < len(visits); twice != w.long() {
		t.Fatalf("of %v and %v, a walk is %v", n, c, w)
	}
}

// Promise 80, in its own words.
func TestWalkEndEach(t *testing.T) {
	for _, w := range someConfs() {
		for _, s := range everySpot() {
			_, last, code := impl.WalkAll(w.n, w.c, s)
			want, ok := map[int]int{impl.WalkHost: last.Sw, impl.WalkDrop: 0, impl.WalkLong: -1}[code]
			if end := impl.WalkEnd(w.n, w.c, s); !ok || end != want {
				t.Fatalf("WalkEnd(%v, %v, %v) is %d, and the code of WalkAll %d", w.n, w.c, s, end, code)
			}
		}
	}
}

// Promise 81: all tables trimmed, and each alone.
func TestWalkAllTrimmed(t *testing.T) {
	changed := 0
	for _, w := range someConfs() {
		all := cloneConf(w.c)
		confs := [][][]impl.Rule{all}
		for i, table := range w.c {
			all[i] = impl.TableTrim(table)
			if len(all[i]) < len(table) {
				changed++
				confs = append(confs, withTable(w.c, i+1, all[i]))
			}
		}
		for _, s := range everySpot() {
			want := walkOf(w.n, w.c, s)
			for _, c := range confs {
				checkWalk(t, w.n, c, s, want)
			}
		}
	}
	if changed < 30 {
		t.Errorf("%d tables were trimmed", changed)
	}
}

// Promise 82: the tables of all switches that the packet does not visit, and of each alone.
func TestWalkAllUnvisited(t *testing.T) {
	changed := 0
	for _, w := range someConfs() {
		for i, s := range everySpot() {
			want := walkOf(w.n, w.c, s)
			all := w.c
			for sw := 1; sw <= 4; sw++ {
				if want.visits(sw) {
					continue
				}
				changed++
				all = withTable(all, sw, [][]impl.Rule{nil, {}}[i%2])
				checkWalk(t, w.n, withTable(w.c, sw, nil), s, want)
			}
			checkWalk(t, w.n, all, s, want)
		}
	}
	if changed < 10000 {
		t.Errorf("%d tables were made empty", changed)
	}
}

// Promise 83: a table more or less, at each end.
func TestConfOkTables(t *testing.T) {
	for _, w := range someConfs() {
		checkConfOk(t, w.c, true)
		for count := range 4 {
			checkConfOk(t, w.c[:count], false)
			checkConfOk(t, w.c[4-count:], false)
			checkNoWalk(t, w.n, w.c[:count], spotOf("1:1.2.0"))
			checkNoWalk(t, w.n, w.c[4-count:], spotOf("1:1.2.0"))
		}
		for _, table := range [][]impl.Rule{nil, {}, {firstRule}, w.c[0], w.c[3]} {
			more := append(slices.Clone(w.c), table)
			checkConfOk(t, more, false)
			checkNoWalk(t, w.n, more, spotOf("4:1.2.0"))
			more = append([][]impl.Rule{table}, w.c...)
			checkConfOk(t, more, false)
			checkNoWalk(t, w.n, more, spotOf("4:1.2.0"))
		}
	}
}

// Promise 83: many tables more, none, and a nil slice.
func TestConfOkCounts(t *testing.T) {
	for _, table := range [][]impl.Rule{nil, {}, {firstRule}, headRules(48)} {
		for _, count := range []int{0, 1, 2, 3, 4, 5, 6, 8, 64, 256 + 4, 1<<16 + 4} {
			c := make([][]impl.Rule, count)
			for i := range c {
				c[i] = table
			}
			checkConfOk(t, c, count == 4)
			if count != 4 {
				checkNoWalk(t, ringNet(), c, spotOf("1:0.0.0"))
			}
		}
	}
	checkConfOk(t, nil, false)
	checkNoWalk(t, nil, nil, spotOf("1:0.0.0"))
	checkNoWalk(t, ringNet(), [][]impl.Rule{}, spotOf("1:0.0.0"))
}

// Promise 83: an invalid table at each switch, also where the packet never comes to it, and at several.
func TestConfOkInvalid(t *testing.T) {
	host := confOf("9 xxxxxx 4 -", "9 xxxxxx 4 -", "9 xxxxxx 4 -", "9 xxxxxx 4 -")
	empty := make([][]impl.Rule, 4)
	for _, no := range noTables() {
		for sw := 1; sw <= 4; sw++ {
			for _, c := range [][][]impl.Rule{host, empty} {
				c = withTable(c, sw, no)
				checkConfOk(t, c, false)
				for from := 1; from <= 4; from++ {
					checkNoWalk(t, ringNet(), c, impl.Spot{Sw: from})
				}
			}
			checkConfOk(t, withTable(withTable(host, sw, no), sw%4+1, no), false)
		}
		checkConfOk(t, [][]impl.Rule{no, no, no, no}, false)
		checkConfOk(t, append(slices.Clone(host), no), false)
		checkConfOk(t, [][]impl.Rule{no}, false)
	}
}

// Tables of all lengths: each alone is as long as it may be.
func TestConfOkFull(t *testing.T) {
	for _, w := range [][][]impl.Rule{
		{headRules(48), headRules(48), headRules(48), headRules(48)},
		{nil, {}, headRules(48), {lastRule}},
		{oneMatchRules(48, "xxxxxx"), append(headRules(47), lastRule), nil, headRules(1)},
	} {
		checkConfOk(t, w, true)
		for sw := 1; sw <= 4; sw++ {
			checkConfOk(t, withTable(w, sw, headRules(49)), false)
			checkConfOk(t, withTable(w, sw, []impl.Rule{lastRule, firstRule}), false)
		}
	}
}

// What goes round, and where a packet ends, after every number of steps.
func TestWalkAllPlanned(t *testing.T) {
	for _, p := range plannedWalks() {
		checkWalk(t, p.n, p.c, p.way[0], p.walk)
		for i := range p.way {
			checkWalk(t, p.n, p.c, p.way[i], wantWalk(p.n, p.c, p.way[i]))
		}
	}
}

// Walks that are too long, written out: what goes round two, three and four switches, from the first packet on and behind a first part.
func TestWalkAllRounds(t *testing.T) {
	two, three := netOf("1.2 2.2", "2.1 1.3"), netOf("1.1 2.1", "2.2 3.1", "3.2 1.2", "4.1 1.3")
	flip := "5 xxxx00 2 1, 5 xxxx01 2 0"
	for _, k := range []struct {
		n    []impl.Link
		c    [][]impl.Rule
		part string
		tour string
		last string
	}{
		{two, confOf("5 xxxxxx 2 -", "5 xxxxxx 2 -", "", ""), "", "1:1.2.3 2:1.2.3", "1:1.2.3"},
		{two, confOf("5 xxxxxx 3 -", "5 xxxxxx 2 -", "", ""), "", "2:0.0.1 1:0.0.1", "2:0.0.1"},
		{two, confOf("5 xxxxxx 3 2", "5 xxxxxx 2 -", "", ""), "1:0.0.1", "2:0.0.2 1:0.0.2", "1:0.0.2"},
		{two, confOf(flip, "5 xxxxxx 1 -", "", ""), "", "1:3.2.0 2:3.2.1 1:3.2.1 2:3.2.0", "1:3.2.0"},
		{two, confOf(flip, "5 xxxxxx 1 -", "", ""), "", "2:3.2.1 1:3.2.1 2:3.2.0 1:3.2.0", "2:3.2.1"},
		{three, confOf("5 xxxxxx 1 -", "5 xxxxxx 2 -", "5 xxxxxx 2 -", "5 xxxxxx 1 -"), "", "1:0.3.0 2:0.3.0 3:0.3.0", "2:0.3.0"},
		{three, confOf("5 xxxxxx 1 -", "5 xxxxxx 2 -", "5 xxxxxx 2 -", "5 xxxxxx 1 -"), "4:0.3.0", "1:0.3.0 2:0.3.0 3:0.3.0", "1:0.3.0"},
		{three, confOf("5 xxxxxx 2 -", "5 xxxxxx 1 -", "5 xxxxxx 1 3", "5 xxxxxx 1 2"), "4:0.3.1 1:0.3.2 3:0.3.2", "2:0.3.3 1:0.3.3 3:0.3.3", "1:0.3.3"},
		{ringNet(), confOf("5 xxxxxx 1 -", "5 xxxxxx 2 -", "5 xxxxxx 2 -", "5 xxxxxx 2 -"), "", "3:2.1.0 4:2.1.0 1:2.1.0 2:2.1.0", "3:2.1.0"},
		{ringNet(), confOf("5 xxxxxx 2 -", "5 xxxxxx 1 -", "5 xxxxxx 1 1", "5 xxxxxx 1 -"), "1:2.1.0 4:2.1.0 3:2.1.0", "2:2.1.1 1:2.1.1 4:2.1.1 3:2.1.1", "1:2.1.1"},
		{ringNet(), countingConf("5 xxxx11 2 0"), "", "1:1.1.0 2:1.1.0 3:1.1.0 4:1.1.0 1:1.1.1 2:1.1.1 3:1.1.1 4:1.1.1 1:1.1.2 2:1.1.2 3:1.1.2 4:1.1.2 1:1.1.3 2:1.1.3 3:1.1.3 4:1.1.3", "1:1.1.0"},
		{ringNet(), countingConf("5 xxxx11 2 3"), "2:1.1.2 3:1.1.2 4:1.1.2", "1:1.1.3 2:1.1.3 3:1.1.3 4:1.1.3", "2:1.1.3"},
	} {
		way := spotsOf(k.part)
		for len(way) < 16 {
			way = append(way, spotsOf(k.tour)...)
		}
		checkWalk(t, k.n, k.c, way[0], walk{way[:16], spotOf(k.last), 4})
	}
}

// Walks that end, written out: the packet before each step, the packet after the last, and the code of the last step.
func TestWalkAllEnds(t *testing.T) {
	line := netOf("1.1 2.1", "2.2 3.1", "3.2 4.1")
	right := []string{"5 xxxxxx 1 -", "5 xxxxxx 2 -", "5 xxxxxx 2 -", ""}
	with := func(sw int, text string) [][]impl.Rule {
		texts := slices.Clone(right)
		texts[sw-1] = text
		return confOf(texts...)
	}
	for _, k := range []struct {
		n    []impl.Link
		c    [][]impl.Rule
		way  string
		last string
		code int
	}{
		{line, with(1, "5 xxxxxx 4 -"), "1:0.1.2", "1:0.1.2", 2},
		{line, with(1, "5 xxxxxx 4 3"), "1:0.1.2", "1:0.1.3", 2},
		{line, with(2, "5 xxxxxx 4 -"), "1:0.1.2 2:0.1.2", "2:0.1.2", 2},
		{line, with(3, "5 xxxxxx 4 0"), "1:0.1.2 2:0.1.2 3:0.1.2", "3:0.1.0", 2},
		{line, with(4, "5 xxxxxx 4 -"), "1:0.1.2 2:0.1.2 3:0.1.2 4:0.1.2", "4:0.1.2", 2},
		{line, with(4, "5 xxxxxx 4 1"), "1:0.1.2 2:0.1.2 3:0.1.2 4:0.1.2", "4:0.1.1", 2},
		{line, with(1, "5 xxxxxx 0 3"), "1:0.1.2", "1:0.1.2", 3},
		{line, with(1, "5 00xxxx 1 3"), "1:1.1.2", "1:1.1.2", 3},
		{line, with(1, "5 xxxxxx 3 3"), "1:0.1.2", "1:0.1.2", 3},
		{line, with(2, "5 xxxxxx 0 -"), "1:0.1.2 2:0.1.2", "2:0.1.2", 3},
		{line, with(2, ""), "1:0.1.2 2:0.1.2", "2:0.1.2", 3},
		{line, with(3, "5 xxxxxx 3 0"), "1:0.1.2 2:0.1.2 3:0.1.2", "3:0.1.2", 3},
		{line, with(4, "5 xxxxxx 0 1"), "1:0.1.2 2:0.1.2 3:0.1.2 4:0.1.2", "4:0.1.2", 3},
		{line, with(4, "5 xxxxxx 2 1"), "1:0.1.2 2:0.1.2 3:0.1.2 4:0.1.2", "4:0.1.2", 3},
		{line, with(4, ""), "1:0.1.2 2:0.1.2 3:0.1.2 4:0.1.2", "4:0.1.2", 3},
		{line, confOf("5 xxxx00 1 1", "5 xxxx01 2 2", "5 xxxx10 2 3", "5 xxxx11 4 0"), "1:3.3.0 2:3.3.1 3:3.3.2 4:3.3.3", "4:3.3.0", 2},
		{line, confOf("5 xxxx00 1 1, 5 xxxx10 4 3", "5 xxxx01 1 2", "", ""), "1:3.3.0 2:3.3.1 1:3.3.2", "1:3.3.3", 2},
		{line, confOf("5 xxxx00 1 1, 5 xxxx10 2 3", "5 xxxx01 1 2", "", ""), "1:3.3.0 2:3.3.1 1:3.3.2", "1:3.3.2", 3},
		{line, confOf("5 xxxx00 1 1", "5 xxxx01 1 2", "", ""), "1:3.3.0 2:3.3.1 1:3.3.2", "1:3.3.2", 3},
		{ringNet(), countingConf("5 xxxx11 4 0"), "3:1.1.1 4:1.1.1 1:1.1.2 2:1.1.2 3:1.1.2 4:1.1.2 1:1.1.3 2:1.1.3 3:1.1.3 4:1.1.3", "4:1.1.0", 2},
	} {
		checkWalk(t, k.n, k.c, spotOf(k.way), walk{spotsOf(k.way), spotOf(k.last), k.code})
	}
}

// All switches with all tags: a walk that ends with the last step that there may be, one that ends with the step before, and one that does not end.
func TestWalkAllLastStep(t *testing.T) {
	all := spotsOf("1:1.2.0 2:1.2.0 3:1.2.0 4:1.2.0 1:1.2.1 2:1.2.1 3:1.2.1 4:1.2.1 1:1.2.2 2:1.2.2 3:1.2.2 4:1.2.2 1:1.2.3 2:1.2.3 3:1.2.3 4:1.2.3")
	n := ringNet()
	host, tagged, dropped, unlinked, idle := countingConf("5 xxxx11 4 -"), countingConf("5 xxxx11 4 2"), countingConf("5 xxxx11 0 0"), countingConf("5 xxxx11 3 0"), countingConf("5 0xxx11 4 0, 5 10xx11 4 0")
	checkWalk(t, n, host, all[0], walk{all, spotOf("4:1.2.3"), 2})
	checkWalk(t, n, tagged, all[0], walk{all, spotOf("4:1.2.2"), 2})
	checkWalk(t, n, dropped, all[0], walk{all, spotOf("4:1.2.3"), 3})
	checkWalk(t, n, unlinked, all[0], walk{all, spotOf("4:1.2.3"), 3})
	checkWalk(t, n, idle, spotOf("1:3.2.0"), walk{spotsWithSrc(all, 3), spotOf("4:3.2.3"), 3})
	for i := range all {
		checkWalk(t, n, host, all[i], walk{all[i:], spotOf("4:1.2.3"), 2})
		checkWalk(t, n, dropped, all[i], walk{all[i:], spotOf("4:1.2.3"), 3})
	}
	for first := 0; first < 16; first += 4 {
		c := countingConf(fmt.Sprintf("5 xxxx11 2 %d", first/4))
		checkWalk(t, n, c, all[0], walk{all, all[first], 4})
		again := slices.Concat(all[1:], all[first:])
		checkWalk(t, n, c, all[1], walk{again[:16], again[:17][16], 4})
	}
}

func spotsWithSrc(l []impl.Spot, src int) []impl.Spot {
	l = slices.Clone(l)
	for i := range l {
		l[i].Head.Src = src
	}
	return l
}

// The same four tables in each order: every switch has the one at its own place.
func TestWalkAllOrders(t *testing.T) {
	tables := confOf("5 xxxxxx 1 -", "5 xxxxxx 2 1", "5 xxxx0x 4 2, 5 xxxx1x 1 0", "5 0xxxxx 3 3, 5 1xxxxx 2 -")
	n, seen := fullNet(), map[string]bool{}
	for _, order := range tableOrders(4) {
		var c [][]impl.Rule
		for _, i := range order {
			c = append(c, tables[i])
		}
		text := ""
		for _, s := range everySpot() {
			want := wantWalk(n, c, s)
			checkWalk(t, n, c, s, want)
			text += fmt.Sprint(want)
		}
		seen[text] = true
	}
	if len(seen) != 24 {
		t.Errorf("%d orders differ", len(seen))
	}
	hosts := confOf("5 xxxxxx 4 0", "5 xxxxxx 4 1", "5 xxxxxx 4 2", "5 xxxxxx 4 3")
	for _, order := range tableOrders(4) {
		c := [][]impl.Rule{hosts[order[0]], hosts[order[1]], hosts[order[2]], hosts[order[3]]}
		for i, tag := range order {
			checkWalk(t, n, c, impl.Spot{Sw: i + 1}, walk{[]impl.Spot{{Sw: i + 1}}, impl.Spot{Sw: i + 1, Head: impl.Head{Tag: tag}}, 2})
		}
	}
}

// tableOrders is the indexes below a number in every order.
func tableOrders(count int) [][]int {
	if count == 0 {
		return [][]int{nil}
	}
	var l [][]int
	for _, order := range tableOrders(count - 1) {
		for at := range count {
			l = append(l, slices.Insert(slices.Clone(order), at, count-1))
		}
	}
	return l
}

// Empty tables and nil tables are the same, at each switch, and so are networks without links.
func TestWalkAllEmpty(t *testing.T) {
	for mask := range 16 {
		first, second := confOf("5 xxxxxx 1 -", "5 xxxxxx 1 -", "5 xxxxxx 1 -", "5 xxxxxx 1 -"), [][]impl.Rule{}
		for i := range first {
			if mask>>i&1 == 1 {
				first[i] = nil
			}
			second = append(second, append([]impl.Rule{}, first[i]...))
		}
		checkConfOk(t, first, true)
		checkConfOk(t, second, true)
		for _, n := range [][]impl.Link{nil, {}, ringNet(), fullNet()} {
			for _, s := range everySpot() {
				want := wantWalk(n, first, s)
				checkWalk(t, n, first, s, want)
				checkWalk(t, n, second, s, want)
				if mask>>(s.Sw-1)&1 == 1 && !sameWalk(want, walk{[]impl.Spot{s}, s, 3}) {
					t.Fatalf("of %v and %v, the walk of %v is %v", n, first, s, want)
				}
			}
		}
	}
}

// Links that are no network, alone: also where the packet needs no link.
func TestWalkNoNet(t *testing.T) {
	confs := [][][]impl.Rule{make([][]impl.Rule, 4), confOf("9 xxxxxx 4 -", "9 xxxxxx 4 -", "9 xxxxxx 4 -", "9 xxxxxx 4 -"), confOf("9 xxxxxx 1 -", "9 xxxxxx 2 -", "9 xxxxxx 3 -", "9 xxxxxx 1 -")}
	for _, n := range noNets() {
		for _, c := range confs {
			for sw := 1; sw <= 4; sw++ {
				checkNoWalk(t, n, c, impl.Spot{Sw: sw, Head: impl.Head{Src: 1, Dst: 2, Tag: 3}})
			}
		}
	}
}

// noSwitches is numbers that no switch has.
func noSwitches() []int {
	return append(ruleNumbers(1, impl.SwitchMax), 0, impl.SwitchMax+1, math.MinInt, math.MaxInt, -4, 8, 64)
}

// A switch that there is not, alone.
func TestWalkNoSwitch(t *testing.T) {
	for _, w := range someConfs() {
		for _, no := range noSwitches() {
			for _, h := range []impl.Head{{}, {Src: 1, Dst: 2, Tag: 3}, {Src: 3, Dst: 3, Tag: 3}} {
				checkNoWalk(t, w.n, w.c, impl.Spot{Sw: no, Head: h})
			}
		}
	}
}

// An invalid header in each of its fields, alone and several together.
func TestWalkNoHead(t *testing.T) {
	for _, w := range namedConfs() {
		for i, h := range invalidHeads() {
			checkNoWalk(t, w.n, w.c, impl.Spot{Sw: 1 + i%4, Head: h})
		}
	}
	for _, w := range someConfs() {
		for sw := 1; sw <= 4; sw++ {
			for _, v := range beyond {
				for _, h := range []impl.Head{{Src: v, Dst: 1, Tag: 2}, {Src: 1, Dst: v, Tag: 2}, {Src: 1, Dst: 2, Tag: v}, {Src: v, Dst: v, Tag: v}} {
					checkNoWalk(t, w.n, w.c, impl.Spot{Sw: sw, Head: h})
				}
			}
		}
	}
}

// Several invalid arguments together.
func TestWalkNoneTogether(t *testing.T) {
	nets := append(takenNets()[:6], ringNet(), nil)
	confs := append([][][]impl.Rule{nil, make([][]impl.Rule, 3), make([][]impl.Rule, 5)}, invalidConfs()...)
	confs = append(confs, make([][]impl.Rule, 4), confOf("9 xxxxxx 1 -", "9 xxxxxx 2 -", "", "9 xxxxxx 4 -"))
	switches, heads := append([]int{1, 4}, noSwitches()...), []impl.Head{{}, {Src: 3, Dst: 3, Tag: 3}, {Src: 4}, {Dst: -1}, {Tag: math.MaxInt}, {Src: -1, Dst: 4, Tag: math.MinInt}}
	tried := 0
	for i, n := range nets {
		for j, c := range confs {
			for k, sw := range switches {
				for l, h := range heads {
					if i >= len(nets)-2 && j >= len(confs)-2 && k < 2 && l < 2 {
						continue
					}
					tried++
					checkNoWalk(t, n, c, impl.Spot{Sw: sw, Head: h})
				}
			}
		}
	}
	if want := len(nets)*len(confs)*len(switches)*len(heads) - 2*2*2*2; tried != want {
		t.Errorf("%d of %d", tried, want)
	}
}

// invalidConfs is four tables, of which the first, a middle or the last one is none.
func invalidConfs() [][][]impl.Rule {
	var l [][][]impl.Rule
	for sw := 1; sw <= 4; sw++ {
		for _, no := range [][]impl.Rule{headRules(49), {lastRule, firstRule}, {{}}, {firstRule, firstRule}} {
			l = append(l, withTable(confOf("5 xxxxxx 4 -", "5 xxxxxx 1 -", "", "5 xxxxxx 4 -"), sw, no))
		}
	}
	return l
}

// ownConf is a copy of a configuration whose tables have memory of their own, with tables and rules behind the ends that are filled too.
func ownConf(c [][]impl.Rule) [][]impl.Rule {
	own := make([][]impl.Rule, 0, len(c)+2)
	for _, table := range c {
		own = append(own, ownTable(table))
	}
	return append(own, ownTable(headRules(2)), ownTable(nil))[:len(c)]
}

// wholeConf is all that a configuration has up to its capacity, and up to that of each table.
func wholeConf(c [][]impl.Rule) [][]impl.Rule {
	var whole [][]impl.Rule
	for _, table := range c[:cap(c)] {
		whole = append(whole, slices.Clone(table[:cap(table)]))
	}
	return whole
}

func sameConf(a [][]impl.Rule, b [][]impl.Rule) bool {
	return slices.EqualFunc(a, b, slices.Equal[[]impl.Rule])
}

// checkKept calls each function of walks once.
func checkKept(t *testing.T, n []impl.Link, c [][]impl.Rule, s impl.Spot) {
	t.Helper()
	checkCallsKeep(t, n, c, []func(n []impl.Link, c [][]impl.Rule){
		func(n []impl.Link, c [][]impl.Rule) { impl.ConfOk(c) },
		func(n []impl.Link, c [][]impl.Rule) { impl.WalkStep(n, c, s) },
		func(n []impl.Link, c [][]impl.Rule) { impl.WalkAll(n, c, s) },
		func(n []impl.Link, c [][]impl.Rule) { impl.WalkEnd(n, c, s) },
	})
}

// checkCallsKeep makes each call with copies of its own, and looks whether these are as they were, also behind the ends of the slices.
func checkCallsKeep(t *testing.T, n []impl.Link, c [][]impl.Rule, calls []func(n []impl.Link, c [][]impl.Rule)) {
	t.Helper()
	for i, call := range calls {
		n, c := ownNet(n), ownConf(c)
		links, rules := slices.Clone(n[:cap(n)]), wholeConf(c)
		call(n, c)
		if !slices.Equal(n[:cap(n)], links) || !sameConf(wholeConf(c), rules) {
			t.Fatalf("call %d has made of %v and %v\n%v and %v", i, links, rules, n[:cap(n)], wholeConf(c))
		}
	}
}

// The arguments are as they were, and what is behind the ends of the slices does not count.
func TestWalkArgumentsKept(t *testing.T) {
	for _, w := range someConfs() {
		n, c := ownNet(w.n), ownConf(w.c)
		checkConfOk(t, c, true)
		checkConfOk(t, c[:3], false)
		checkConfOk(t, c[:5], false)
		for i, s := range everySpot() {
			checkStep(t, n, c, s)
			checkWalk(t, n, c, s, wantWalk(w.n, w.c, s))
			if i%16 == 5 {
				checkKept(t, w.n, w.c, s)
			}
		}
		checkKept(t, w.n, w.c[:3], spotOf("1:0.0.0"))
		checkKept(t, w.n, append(slices.Clone(w.c), nil), spotOf("1:0.0.0"))
		checkKept(t, w.n, w.c, spotOf("5:0.0.0"))
		checkKept(t, w.n, w.c, spotOf("1:0.0.4"))
	}
}

// What is no network or no configuration is as it was too.
func TestWalkRejectsKept(t *testing.T) {
	for i, no := range noTables() {
		checkKept(t, fullNet(), withTable(confOf("5 xxxxxx 1 -", "5 xxxxxx 1 -", "", ""), 1+i%4, no), spotOf("1:0.0.0"))
	}
	for _, no := range noNets() {
		checkKept(t, no, confOf("5 xxxxxx 1 -", "5 xxxxxx 1 -", "", "5 xxxxxx 4 -"), spotOf("1:0.0.0"))
	}
}

// No path of WalkAll shares memory with that of another call, also behind its end, and filling one changes nothing.
func TestWalkAllOwnMemory(t *testing.T) {
	for _, w := range someConfs() {
		var walks []walk
		for i, s := range everySpot() {
			if i%8 == 3 {
				walks = append(walks, walkOf(w.n, w.c, s), walkOf(w.n, w.c, s))
			}
		}
		for i, a := range walks {
			for _, b := range walks[:i] {
				if slicesMeet(a.way, b.way) {
					t.Fatalf("of %v and %v, the paths %v and %v share memory", w.n, w.c, a.way, b.way)
				}
			}
		}
		first := walks[0].way[0]
		for _, a := range walks {
			fill(a.way, impl.Spot{Sw: 9, Head: impl.Head{Src: 9, Dst: 9, Tag: 9}})
		}
		checkWalk(t, w.n, w.c, first, wantWalk(w.n, w.c, first))
	}
}

// The same call many times in a row gives the same answer, also with other calls in between.
func TestWalkAgain(t *testing.T) {
	confs := namedConfs()
	for _, w := range confs[:len(confs)-1] {
		for _, s := range spotsOf("1:0.0.0 2:1.2.3 3:3.3.1 4:2.0.2") {
			want := wantWalk(w.n, w.c, s)
			for range 100 {
				checkStep(t, w.n, w.c, s)
				checkWalk(t, w.n, w.c, s, want)
			}
		}
	}
	planned := plannedWalks()
	for i := range 3000 {
		p := planned[i*i%len(planned)]
		checkConfOk(t, p.c, true)
		checkNoWalk(t, p.n, p.c[:3], p.way[0])
		checkWalk(t, p.n, p.c, p.way[0], p.walk)
		checkNoWalk(t, p.n, p.c, impl.Spot{})
		checkConfOk(t, p.c[1:], false)
		checkStep(t, p.n, p.c, p.way[0])
	}
}
