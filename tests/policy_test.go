package tests

import (
	"fmt"
	"math"
	"math/rand/v2"
	"slices"
	"strings"
	"sync"
	"testing"

	"loop.example/crossbuck/impl"
)

// goal is what PolicyAt returns: To and Via.
type goal struct {
	to  int
	via int
}

// goals is what PolicyAt returns for each header, by its number.
type goals [64]goal

// fitCase is a network with a configuration, and a policy.
type fitCase struct {
	wired
	p []impl.Want
}

// wantsOf is the requirements of some texts, each a condition, To and Via.
func wantsOf(texts ...string) []impl.Want {
	var p []impl.Want
	for _, text := range texts {
		var w impl.Want
		if _, err := fmt.Sscanf(text, "%s %d %d", &w.Pred, &w.To, &w.Via); err != nil || !predText(w.Pred) {
			panic("no requirement: " + text)
		}
		p = append(p, w)
	}
	return p
}

// wantGoals goes from the last requirement to the first, so that of those whose conditions hold the first one is what stays.
func wantGoals(p []impl.Want) goals {
	var g goals
	for _, w := range slices.Backward(p) {
		set := predSet(w.Pred)
		for n := range g {
			if set>>n&1 == 1 {
				g[n] = goal{w.To, w.Via}
			}
		}
	}
	return g
}

// to is the headers whose To is the given one.
func (g goals) to(to int) uint64 {
	var set uint64
	for n, aim := range g {
		if aim.to == to {
			set |= 1 << n
		}
	}
	return set
}

// of is the goal of a packet.
func (g goals) of(s impl.Spot) goal {
	return g[16*s.Head.Src+4*s.Head.Dst+s.Head.Tag]
}

// allGoals is every goal that a requirement may have.
func allGoals() []goal {
	l := []goal{{}}
	for _, to := range allSwitches() {
		for via := range 5 {
			l = append(l, goal{to, via})
		}
	}
	return l
}

// sentSpots is the packets that hosts send, as the document lists them.
func sentSpots() []impl.Spot {
	var l []impl.Spot
	for _, host := range allSwitches() {
		for dst := range 4 {
			l = append(l, impl.Spot{Sw: host, Head: impl.Head{Src: host - 1, Dst: dst}})
		}
	}
	return l
}

// sent is whether a host sends a packet.
func sent(s impl.Spot) bool {
	return s.Head.Src == s.Sw-1 && s.Head.Tag == 0
}

// meets is whether a walk is as a goal requires.
func (w walk) meets(g goal) bool {
	return w.wantEnd() == g.to && (g.via == 0 || w.visits(g.via))
}

// wantFits is PolicyFits of a network, a configuration and a policy, by the document's definition.
func wantFits(k fitCase) bool {
	g := wantGoals(k.p)
	return !slices.ContainsFunc(sentSpots(), func(s impl.Spot) bool { return !wantWalk(k.n, k.c, s).meets(g.of(s)) })
}

// wantSamePolicy is PolicySame of two policies, by the document's definition.
func wantSamePolicy(a []impl.Want, b []impl.Want) bool {
	first, second := wantGoals(a), wantGoals(b)
	return !slices.ContainsFunc(sentSpots(), func(s impl.Spot) bool { return first.of(s) != second.of(s) })
}

// namedPolicies is the policies that the document's definitions single out.
func namedPolicies() [][]impl.Want {
	return [][]impl.Want{
		nil,
		{},
		wantsOf("1 0 0"),
		wantsOf("0 3 1"),
		wantsOf("1 1 0"),
		wantsOf("1 4 0"),
		wantsOf("1 2 3"),
		wantsOf("1 3 3"),
		wantsOf("t0 2 0"),
		wantsOf("!t0 2 0"),
		wantsOf("s0 2 0", "d1 3 0"),
		wantsOf("d1 3 0", "s0 2 0"),
		wantsOf("s0 2 1", "s0 2 3"),
		wantsOf("&s0d0 0 0", "1 4 2"),
		wantsOf("!&s0d0 4 2", "1 0 0"),
		wantsOf("&s3&d3t3 1 4"),
		wantsOf("d0 1 0", "d1 2 0", "d2 3 0", "d3 4 0"),
		wantsOf("s0 1 0", "s1 2 0", "s2 3 0", "s3 4 0"),
		wantsOf("s0 2 3", "s1 3 4", "s2 4 1", "s3 1 2"),
		wantsOf("t1 1 0", "t2 2 0", "t3 3 0", "&s0d3 4 1", "d0 2 2"),
		wantsOf("|s0d0 1 2", "0 4 4", "|t0s1 2 3", "!|s0|s1|d0t0 3 0", "t2 4 1"),
		wantsOf("!!!!!!!!!!!!!!s1 1 4", "&0&0&0&0&0&0&0s1 2 0", "|1|1|1|1|1|1|1t3 3 2"),
		wantsOf("1 3 0", "s0 1 0", "d0 2 1", "t0 4 3", "1 0 0"),
		wantsOf("0 1 0", "0 2 0", "0 3 0", "0 4 0", "s2 3 1"),
		wantsOf("s0 0 0", "s1 0 0", "s2 0 0", "d1 0 0", "1 4 4"),
	}
}

// drawGoal is a goal that drops less seldom than allGoals has it.
func drawGoal(draw *rand.Rand) goal {
	if draw.IntN(5) == 0 {
		return goal{}
	}
	return goal{1 + draw.IntN(4), draw.IntN(5)}
}

// drawnPolicies is policies of each length up to WantMax drawn by a fixed seed, with short conditions and with long ones.
func drawnPolicies(count int, seed uint64) [][]impl.Want {
	draw, signs := rand.New(rand.NewPCG(seed, 31)), signPreds()
	var l [][]impl.Want
	for i := range count {
		longest := 2 + draw.IntN(15)
		var p []impl.Want
		for range 1 + i%5 {
			g := drawGoal(draw)
			p = append(p, impl.Want{Pred: drawPred(draw, signs, 1+draw.IntN(longest)).text, To: g.to, Via: g.via})
		}
		l = append(l, p)
	}
	return l
}

// somePolicies is named and drawn policies.
var somePolicies = sync.OnceValue(func() [][]impl.Want {
	return append(namedPolicies(), drawnPolicies(150, 1)...)
})

// wantsWithFaults is invalid requirements: each has one part that is wrong.
func wantsWithFaults() []impl.Want {
	var l []impl.Want
	for i, text := range noPreds() {
		g := allGoals()[i%21]
		l = append(l, impl.Want{Pred: text, To: g.to, Via: g.via})
	}
	for _, pred := range []string{"1", "0", "s1"} {
		for _, no := range noHosts() {
			l = append(l, impl.Want{Pred: pred, To: no}, impl.Want{Pred: pred, To: no, Via: 2}, impl.Want{Pred: pred, To: 3, Via: no}, impl.Want{Pred: pred, Via: no}, impl.Want{Pred: pred, To: no, Via: no})
		}
		for _, via := range allSwitches() {
			l = append(l, impl.Want{Pred: pred, Via: via})
		}
	}
	return l
}

// noHosts is numbers that neither To nor Via may have, also ones that some of their bits alone would be valid of.
func noHosts() []int {
	l := append(ruleNumbers(0, impl.SwitchMax), -1, impl.SwitchMax+1, math.MinInt, math.MaxInt, -4, 8)
	for _, sw := range allSwitches() {
		l = append(l, sw+1<<8, sw+1<<16, sw+1<<32)
	}
	return l
}

// fullWants is a policy of WantMax requirements, the first of which holds for every header.
func fullWants() []impl.Want {
	return wantsOf("1 3 0", "s1 2 1", "d1 0 0", "t1 4 4", "|s1d2 1 2")
}

// noPolicies is lists that are no policy: too many requirements, or an invalid one at the first, a middle or the last place, also behind one that holds for every header.
var noPolicies = sync.OnceValue(func() [][]impl.Want {
	l := [][]impl.Want{
		{{}},
		{{}, {}},
		append(fullWants(), fullWants()[0]),
		append(fullWants(), impl.Want{Pred: "0"}),
		append(fullWants(), impl.Want{}),
		slices.Repeat(wantsOf("0 0 0"), 6),
		slices.Repeat(wantsOf("1 3 0"), 6),
		slices.Repeat(wantsOf("s1 1 2"), 7),
		slices.Repeat(wantsOf("1 3 0"), 10),
		slices.Repeat(wantsOf("0 0 0"), 6000),
	}
	for _, no := range wantsWithFaults() {
		for _, length := range []int{1, 3, 5} {
			for _, at := range []int{0, length / 2, length - 1} {
				p := fullWants()[:length]
				p[at] = no
				l = append(l, p)
			}
		}
	}
	return l
})

// fewNoPolicies is some of noPolicies, of each kind.
func fewNoPolicies() [][]impl.Want {
	l := slices.Clone(noPolicies()[:10])
	for i, no := range noPolicies()[10:] {
		if i%37 == 0 {
			l = append(l, no)
		}
	}
	return l
}

// What the policies have to contain, so that the tests below mean something.
func TestPolicyLimits(t *testing.T) {
	if impl.WantMax != 5 || len(sentSpots()) != 16 || len(allGoals()) != 21 {
		t.Errorf("WantMax is %d, with %d packets and %d goals", impl.WantMax, len(sentSpots()), len(allGoals()))
	}
	of, held := map[goal]int{}, [4]int{}
	for _, p := range drawnPolicies(150, 1) {
		var sets []uint64
		for _, w := range p {
			sets = append(sets, predSet(w.Pred))
		}
		countHeld(&held, sets)
		for _, g := range wantGoals(p) {
			of[g]++
		}
	}
	if held[0] < 500 || held[2] < 500 || held[3] < 500 {
		t.Errorf("%v headers by the number of their requirements", held)
	}
	for _, g := range allGoals() {
		if of[g] < 10 {
			t.Errorf("%d headers have the goal %v", of[g], g)
		}
	}
}

func checkPolicyOk(t *testing.T, p []impl.Want, want bool) {
	t.Helper()
	if impl.PolicyOk(p) != want {
		t.Fatalf("PolicyOk(%.200q) is %v", fmt.Sprint(p), !want)
	}
}

func checkGoal(t *testing.T, p []impl.Want, h impl.Head, want goal) {
	t.Helper()
	if to, via := impl.PolicyAt(p, h); to != want.to || via != want.via {
		t.Fatalf("PolicyAt(%.200q, %v) is %d, %d, not %v", fmt.Sprint(p), h, to, via, want)
	}
}

func checkPolicyTo(t *testing.T, p []impl.Want, to int, want []string) {
	t.Helper()
	if got := impl.PolicyTo(p, to); !slices.Equal(got, want) {
		t.Fatalf("PolicyTo(%.200q, %d) is\n%q, not\n%q", fmt.Sprint(p), to, got, want)
	}
}

// checkGoals compares PolicyAt of every header and PolicyTo of every host with what is wanted.
func checkGoals(t *testing.T, p []impl.Want, want goals) {
	t.Helper()
	for n, h := range validHeads() {
		checkGoal(t, p, h, want[n])
	}
	for to := range 5 {
		checkPolicyTo(t, p, to, wantSpace(want.to(to)))
	}
}

func checkFits(t *testing.T, k fitCase, want bool) {
	t.Helper()
	if impl.PolicyFits(k.n, k.c, k.p) != want {
		t.Fatalf("PolicyFits(%v, %v, %.200q) is %v", k.n, k.c, fmt.Sprint(k.p), !want)
	}
}

// checkSamePolicy asks in both orders.
func checkSamePolicy(t *testing.T, a []impl.Want, b []impl.Want, want bool) {
	t.Helper()
	if first, second := impl.PolicySame(a, b), impl.PolicySame(b, a); first != want || second != want {
		t.Fatalf("PolicySame(%.200q, %.200q) is %v, and %v the other way round", fmt.Sprint(a), fmt.Sprint(b), first, second)
	}
}

// Promises 91 and 92, by the document's definitions.
func TestPolicyEach(t *testing.T) {
	for _, p := range somePolicies() {
		checkPolicyOk(t, p, true)
		checkGoals(t, p, wantGoals(p))
	}
}

// Promise 91, in its own words.
func TestPolicyAtFirst(t *testing.T) {
	for _, p := range somePolicies() {
		for _, h := range validHeads() {
			var want goal
			if at := slices.IndexFunc(p, func(w impl.Want) bool { return impl.PredHas(w.Pred, h) }); at >= 0 {
				want = goal{p[at].To, p[at].Via}
			}
			checkGoal(t, p, h, want)
		}
	}
}

// Promise 91: two conditions that both hold, in both orders, and each of WantMax as the first one that holds.
func TestPolicyAtOfTwo(t *testing.T) {
	h := impl.Head{Src: 1, Dst: 2, Tag: 3}
	for _, texts := range [][2]string{
		{"s1 2 0", "d2 3 0"}, {"s1 2 1", "d2 2 3"}, {"s1 2 1", "s1 3 1"}, {"1 0 0", "t3 4 0"}, {"1 1 0", "1 1 1"}, {"&s1&d2t3 4 4", "!t0 0 0"}, {"|s0d2 3 0", "!&s1d1 3 2"},
	} {
		p := wantsOf(texts[:]...)
		for range 2 {
			checkGoal(t, p, h, goal{p[0].To, p[0].Via})
			for _, other := range wantsOf("0 4 2", "!s1 4 2", "&s1&d2t2 4 2") {
				checkGoal(t, []impl.Want{other, p[0], p[1]}, h, goal{p[0].To, p[0].Via})
				checkGoal(t, []impl.Want{p[0], other, p[1]}, h, goal{p[0].To, p[0].Via})
			}
			slices.Reverse(p)
		}
	}
	for i, h := range validHeads() {
		for first := range 5 {
			var p []impl.Want
			for at := range 5 {
				pred := "!" + headPred(h)
				if at == first || at > first && at%2 == 0 {
					pred = headPred(h)
				}
				p = append(p, impl.Want{Pred: pred, To: 1 + (i+at)%4, Via: at})
			}
			checkGoal(t, p, h, goal{1 + (i+first)%4, first})
			checkGoals(t, p, wantGoals(p))
			checkGoal(t, p[:first], h, goal{})
		}
	}
}

// Promise 91: a condition that holds for every header, for none, and for one alone, with every goal.
func TestPolicyAtAllNoneOne(t *testing.T) {
	for i, g := range allGoals() {
		var all goals
		for n := range all {
			all[n] = g
		}
		checkGoals(t, []impl.Want{{Pred: "1", To: g.to, Via: g.via}}, all)
		checkGoals(t, []impl.Want{{Pred: "|t0!t0", To: g.to, Via: g.via}}, all)
		checkGoals(t, []impl.Want{{Pred: "0", To: g.to, Via: g.via}}, goals{})
		checkGoals(t, []impl.Want{{Pred: "&s0s1", To: g.to, Via: g.via}, {Pred: "0", To: 4}}, goals{})
		for n, h := range validHeads() {
			var one goals
			one[n] = g
			p := []impl.Want{{Pred: headPred(h), To: g.to, Via: g.via}}
			checkGoal(t, p, h, g)
			if (i+n)%3 == 0 {
				checkGoals(t, p, one)
				checkGoals(t, append(p, impl.Want{Pred: "!" + headPred(h)}), one)
			}
		}
	}
}

// Promise 92, in its own words, also for headers with any Tag.
func TestPolicyToParts(t *testing.T) {
	var tagged, empty [5]int
	for _, p := range somePolicies() {
		var union []string
		var sets [5]uint64
		for to := range 5 {
			part := impl.PolicyTo(p, to)
			checkPolicyTo(t, p, to, impl.SpaceTidy(part))
			if both := impl.SpaceAnd(union, part); len(both) != 0 {
				t.Fatalf("PolicyTo(%v, %d) is %v, and has %v in common with the hosts before", p, to, part, both)
			}
			union, sets[to] = impl.SpaceOr(union, part), spaceSet(part)
			if len(part) == 0 {
				empty[to]++
			}
		}
		if !slices.Equal(union, []string{"xxxxxx"}) {
			t.Fatalf("PolicyTo(%v) of all hosts is %v", p, union)
		}
		for n, h := range validHeads() {
			to, _ := impl.PolicyAt(p, h)
			for other, set := range sets {
				if (other == to) != (set>>n&1 == 1) {
					t.Fatalf("PolicyTo(%v, %d) is %v, and PolicyAt of %v is %d", p, other, wantSpace(set), h, to)
				}
			}
			if bare, _ := impl.PolicyAt(p, impl.Head{Src: h.Src, Dst: h.Dst}); bare != to {
				tagged[to]++
			}
		}
	}
	if slices.Min(tagged[:]) < 100 || slices.Min(empty[:]) < 10 {
		t.Errorf("%v headers come elsewhere for their tag, and %v lists are empty", tagged, empty)
	}
}

// The lists written out.
func TestPolicyToCases(t *testing.T) {
	for _, k := range []struct {
		p    []impl.Want
		want [5]string
	}{
		{nil, [5]string{"xxxxxx", "", "", "", ""}},
		{wantsOf("1 0 0"), [5]string{"xxxxxx", "", "", "", ""}},
		{wantsOf("1 4 2"), [5]string{"", "", "", "", "xxxxxx"}},
		{wantsOf("0 4 2"), [5]string{"xxxxxx", "", "", "", ""}},
		{wantsOf("!t0 2 0"), [5]string{"xxxx00", "", "xxxx01 xxxx1x", "", ""}},
		{wantsOf("&s1d2 3 1"), [5]string{"00xxxx 010xxx 0111xx 1xxxxx", "", "", "0110xx", ""}},
		{wantsOf("s0 1 0", "s1 2 0", "s2 3 0", "s3 4 0"), [5]string{"", "00xxxx", "01xxxx", "10xxxx", "11xxxx"}},
		{wantsOf("s0 1 0", "s1 2 0", "s2 1 4", "s3 2 2"), [5]string{"", "x0xxxx", "x1xxxx", "", ""}},
		{wantsOf("&s0d0 0 0", "s0 1 0", "t3 3 3", "1 4 0"), [5]string{"0000xx", "0001xx 001xxx", "", "01xx11 1xxx11", "01xx0x 01xx10 1xxx0x 1xxx10"}},
		{wantsOf("&s2&d1t3 1 2"), [5]string{"0xxxxx 1000xx 10010x 100110 101xxx 11xxxx", "100111", "", "", ""}},
	} {
		for to, text := range k.want {
			checkPolicyTo(t, k.p, to, strings.Fields(text))
		}
	}
}

// somePairs is pairs of policies: some that have little in common, and each with one that differs from it in one requirement, in their order, or in what is the same.
func somePairs() [][2][]impl.Want {
	draw, signs := rand.New(rand.NewPCG(94, 31)), signPreds()
	l := [][2][]impl.Want{}
	for i, p := range somePolicies() {
		l = append(l, [2][]impl.Want{p, somePolicies()[i*i%len(somePolicies())]}, [2][]impl.Want{p, slices.Clone(p)})
		if len(p) == 0 {
			continue
		}
		at, g := draw.IntN(len(p)), drawGoal(draw)
		other, respelt, turned := slices.Clone(p), slices.Clone(p), slices.Clone(p)
		other[at] = impl.Want{Pred: drawPred(draw, signs, 1+draw.IntN(16)).text, To: g.to, Via: g.via}
		respelt[at].Pred = tagless(respelt[at].Pred)
		slices.Reverse(turned)
		l = append(l, [2][]impl.Want{p, other}, [2][]impl.Want{p, respelt}, [2][]impl.Want{p, turned}, [2][]impl.Want{p, p[:at]}, [2][]impl.Want{p, p[at:]})
	}
	return l
}

// tagless is a condition that holds, of all packets that hosts send, for the same as another one, and not always for the same headers.
func tagless(pred string) string {
	return strings.NewReplacer("t1", "t3", "t2", "t1", "t3", "t2").Replace(pred)
}

// Promise 94, by the document's definition and in its own words.
func TestPolicySameEach(t *testing.T) {
	var answers, tagged int
	pairs := somePairs()
	for _, pair := range pairs {
		a, b := pair[0], pair[1]
		want := wantSamePolicy(a, b)
		checkSamePolicy(t, a, b, want)
		agrees := true
		for _, s := range sentSpots() {
			to, via := impl.PolicyAt(a, s.Head)
			otherTo, otherVia := impl.PolicyAt(b, s.Head)
			agrees = agrees && to == otherTo && via == otherVia
		}
		if want != agrees {
			t.Fatalf("PolicySame(%v, %v) is %v", a, b, want)
		}
		if want {
			answers++
			if wantGoals(a) != wantGoals(b) {
				tagged++
			}
		}
	}
	if answers < 250 || len(pairs)-answers < 250 || tagged < 50 {
		t.Errorf("%d of %d pairs are the same, %d of them not for headers with another Tag", answers, len(pairs), tagged)
	}
}

// Promise 94: two policies that differ for one header alone, in To, in Via and in both, are the same if and only if no host sends it. PolicyAt tells them apart, and PolicyTo if To does.
func TestPolicySameOneHeader(t *testing.T) {
	var differ [2]int
	for i, p := range [][]impl.Want{nil, wantsOf("1 3 0"), wantsOf("1 2 4"), wantsOf("s0 2 3", "s1 3 4", "s2 4 1", "s3 1 2"), wantsOf("d0 1 0", "d1 2 2", "t1 3 0", "|s1t2 4 3")} {
		was := wantGoals(p)
		for n, h := range validHeads() {
			for _, g := range allGoals() {
				other, want := append([]impl.Want{{Pred: headPred(h), To: g.to, Via: g.via}}, p...), was
				want[n] = g
				same := h.Tag != 0 || was[n] == g
				if !same {
					differ[min(1, i)]++
				}
				checkSamePolicy(t, p, other, same)
				checkGoal(t, p, h, was[n])
				checkGoal(t, other, h, g)
				if n%5 == g.via {
					checkGoals(t, other, want)
				}
			}
		}
	}
	if slices.Min(differ[:]) < 16*20 {
		t.Errorf("%v pairs differ for a header that a host sends", differ)
	}
}

// Promise 94: each packet that a host sends in turn, at the first, a middle and the last host, in To alone and in Via alone, written out.
func TestPolicySameCases(t *testing.T) {
	for _, k := range []struct {
		a, b []impl.Want
		want bool
	}{
		{nil, wantsOf("1 0 0"), true},
		{nil, wantsOf("0 1 0"), true},
		{nil, wantsOf("!t0 1 0"), true},
		{nil, wantsOf("t3 4 4", "t2 4 1", "t1 1 1"), true},
		{nil, wantsOf("t3 4 4", "t2 4 1", "t0 1 1"), false},
		{wantsOf("1 2 0"), wantsOf("t0 2 0"), true},
		{wantsOf("1 2 0"), wantsOf("t0 2 2"), false},
		{wantsOf("1 2 0"), wantsOf("t1 3 0", "t2 1 4", "t3 0 0", "1 2 0"), true},
		{wantsOf("1 2 0"), wantsOf("&s0d0 3 0", "1 2 0"), false},
		{wantsOf("1 2 0"), wantsOf("&s0d0 2 3", "1 2 0"), false},
		{wantsOf("1 2 0"), wantsOf("&s0&d0t1 3 0", "1 2 0"), true},
		{wantsOf("1 2 1"), wantsOf("&s1d2 3 1", "1 2 1"), false},
		{wantsOf("1 2 1"), wantsOf("&s1d2 2 2", "1 2 1"), false},
		{wantsOf("1 2 1"), wantsOf("&s1d2 2 0", "1 2 1"), false},
		{wantsOf("1 2 1"), wantsOf("&s1&d2!t0 4 4", "1 2 1"), true},
		{wantsOf("1 2 4"), wantsOf("&s3d3 1 4", "1 2 4"), false},
		{wantsOf("1 2 4"), wantsOf("&s3d3 2 3", "1 2 4"), false},
		{wantsOf("1 2 4"), wantsOf("&s3d3 0 0", "1 2 4"), false},
		{wantsOf("1 2 4"), wantsOf("&s3&d3t3 0 0", "1 2 4"), true},
		{wantsOf("s0 2 0", "s1 3 0"), wantsOf("s1 3 0", "s0 2 0"), true},
		{wantsOf("s0 2 0", "d1 3 0"), wantsOf("d1 3 0", "s0 2 0"), false},
		{wantsOf("s0 2 0", "t1 3 0"), wantsOf("t1 3 0", "s0 2 0"), true},
		{wantsOf("s0 2 0", "t0 3 0"), wantsOf("t0 3 0", "s0 2 0"), false},
	} {
		checkSamePolicy(t, k.a, k.b, k.want)
	}
}

// Promise 95: a policy, and what is left of it without its last requirements, without its first, and without one.
func TestPolicyOkParts(t *testing.T) {
	for _, p := range append(somePolicies(), fullWants()) {
		checkPolicyOk(t, p, true)
		for i := range p {
			checkPolicyOk(t, p[:i], true)
			checkPolicyOk(t, p[i:], true)
			checkPolicyOk(t, slices.Delete(slices.Clone(p), i, i+1), true)
		}
	}
}

// Promise 95: an invalid condition, To or Via at each place, and a Via for dropped packets.
func TestPolicyOkFaults(t *testing.T) {
	for _, p := range noPolicies() {
		checkPolicyOk(t, p, false)
	}
	for _, p := range append(namedPolicies(), drawnPolicies(50, 95)...) {
		for at := range p {
			with := func(w impl.Want) []impl.Want {
				other := slices.Clone(p)
				other[at] = w
				return other
			}
			for _, no := range []int{-1, impl.SwitchMax + 1, math.MinInt, math.MaxInt} {
				checkPolicyOk(t, with(impl.Want{Pred: p[at].Pred, To: no, Via: p[at].Via}), false)
				checkPolicyOk(t, with(impl.Want{Pred: p[at].Pred, To: p[at].To, Via: no}), false)
			}
			for _, sw := range allSwitches() {
				checkPolicyOk(t, with(impl.Want{Pred: p[at].Pred, To: 0, Via: sw}), false)
				checkPolicyOk(t, with(impl.Want{Pred: p[at].Pred, To: sw, Via: sw}), true)
			}
			for _, text := range spoiltPreds(p[at].Pred) {
				checkPolicyOk(t, with(impl.Want{Pred: text, To: p[at].To, Via: p[at].Via}), false)
			}
		}
	}
}

// The bounds: every number of requirements, every To with every Via, and the length of a condition.
func TestPolicyOkBounds(t *testing.T) {
	for count := range 20 {
		for _, w := range wantsOf("1 3 0", "0 0 0", "&s1!d2 4 4") {
			checkPolicyOk(t, slices.Repeat([]impl.Want{w}, count), count <= 5)
		}
	}
	for to := -3; to <= 8; to++ {
		for via := -3; via <= 8; via++ {
			want := to >= 0 && to <= 4 && via >= 0 && via <= 4 && (to > 0 || via == 0)
			w := impl.Want{Pred: "|s1t2", To: to, Via: via}
			checkPolicyOk(t, []impl.Want{w}, want)
			for at := range 5 {
				checkPolicyOk(t, slices.Insert(wantsOf("1 3 0", "s1 2 1", "0 1 1", "d1 0 0"), at, w), want)
			}
		}
	}
	for _, length := range []int{15, 16, 17} {
		text := strings.Repeat("!", length-1) + "1"
		for at := range 3 {
			checkPolicyOk(t, slices.Insert(wantsOf("1 3 0", "0 1 1"), at, impl.Want{Pred: text}), length <= 16)
		}
	}
}

// Promise 96: what comes behind changes only what no earlier condition holds for.
func TestPolicyAppend(t *testing.T) {
	draw, signs := rand.New(rand.NewPCG(96, 31)), signPreds()
	changed, kept := 0, 0
	for _, p := range somePolicies() {
		if len(p) == 5 {
			continue
		}
		more := wantsOf("1 4 2", "0 4 2", "|s1t2 0 0", "t0 1 0")
		for range 5 {
			g := drawGoal(draw)
			more = append(more, impl.Want{Pred: drawPred(draw, signs, 1+draw.IntN(16)).text, To: g.to, Via: g.via})
		}
		for _, w := range more {
			longer, set := append(slices.Clone(p), w), predSet(w.Pred)
			for n, h := range validHeads() {
				to, via := impl.PolicyAt(p, h)
				want := goal{to, via}
				if set>>n&1 == 1 && !slices.ContainsFunc(p, func(w impl.Want) bool { return impl.PredHas(w.Pred, h) }) {
					want = goal{w.To, w.Via}
					changed++
				} else {
					kept++
				}
				checkGoal(t, longer, h, want)
			}
		}
	}
	if changed < 1000 || kept < 1000 {
		t.Errorf("%d headers changed and %d kept", changed, kept)
	}
}

// drawnTrip is a path along links of a network from a packet to a switch, by way of another one (0 is whichever), no two of its packets the same; or none, where no such path was found.
func drawnTrip(draw *rand.Rand, n []impl.Link, s impl.Spot, g goal) []impl.Spot {
	for range 100 {
		path := []impl.Spot{s}
		for range draw.IntN(6) {
			last := path[len(path)-1]
			next := impl.Spot{Sw: wantPeer(n, netSide{last.Sw, 1 + draw.IntN(3)}).sw, Head: last.Head}
			next.Head.Tag = draw.IntN(4)
			if next.Sw != 0 && !slices.Contains(path, next) {
				path = append(path, next)
			}
		}
		w := walk{way: path}
		if (g.to == 0 || path[len(path)-1].Sw == g.to) && (g.via == 0 || w.visits(g.via)) {
			return path
		}
	}
	return nil
}

// withTrip is a configuration with rules by which a packet follows a path, and is delivered or dropped at its end.
func withTrip(draw *rand.Rand, n []impl.Link, c [][]impl.Rule, path []impl.Spot, to int) [][]impl.Rule {
	for i, s := range path[:len(path)-1] {
		c = withLastRule(c, s, portTo(n, s.Sw, path[i+1].Sw), path[i+1].Head.Tag)
	}
	last := path[len(path)-1]
	if to != 0 {
		return withLastRule(c, last, 4, draw.IntN(5)-1)
	}
	if out := portTo(n, last.Sw, 0); draw.IntN(2) == 0 && out != 0 {
		return withLastRule(c, last, out, draw.IntN(5)-1)
	}
	if draw.IntN(2) == 0 {
		return withLastRule(c, last, 0, draw.IntN(5)-1)
	}
	return c
}

// drawnFit is a configuration that does what a policy wants, by paths drawn along the links of a network, and nothing else; none, if no path was found for a packet.
func drawnFit(draw *rand.Rand, n []impl.Link, p []impl.Want) [][]impl.Rule {
	c, g := make([][]impl.Rule, 4), wantGoals(p)
	for _, s := range sentSpots() {
		path := drawnTrip(draw, n, s, g.of(s))
		if path == nil {
			return nil
		}
		c = withTrip(draw, n, c, path, g.of(s).to)
	}
	return c
}

// fittingCases is each policy with configurations that do what it wants, in several networks.
var fittingCases = sync.OnceValue(func() []fitCase {
	draw := rand.New(rand.NewPCG(93, 31))
	var l []fitCase
	for _, p := range somePolicies() {
		for _, n := range [][]impl.Link{lineNet(), ringNet(), fullNet(), netOf("1.2 2.2", "2.1 1.3", "2.3 3.1", "3.3 4.2"), netOf("1.1 2.1", "2.2 3.1", "3.2 1.2")} {
			n = drawOrder(draw, n)
			if c := drawnFit(draw, n, p); c != nil {
				l = append(l, fitCase{wired{n, c}, p})
			}
		}
	}
	return l
})

// changedTables is configurations that differ from that of a case in the rule of one packet, or of one table: without it, with another port, with another tag.
func changedTables(draw *rand.Rand, k fitCase) [][][]impl.Rule {
	var l [][][]impl.Rule
	for _, sw := range allSwitches() {
		table := k.c[sw-1]
		l = append(l, withTable(k.c, sw, nil), withTable(k.c, sw, withRule(table, impl.Rule{Prio: draw.IntN(10), Match: "xxxxxx", Out: 4, Tag: -1})))
		if len(table) == 0 {
			continue
		}
		r := table[draw.IntN(len(table))]
		ported, tagged := r, r
		ported.Out, tagged.Tag = draw.IntN(5), draw.IntN(5)-1
		for _, other := range []impl.Rule{ported, tagged} {
			l = append(l, withTable(k.c, sw, withRule(withoutRule(table, r), other)))
		}
		l = append(l, withTable(k.c, sw, withoutRule(table, r)))
	}
	return l
}

// otherWay is a policy that differs from another one in one Via, where that has one that does not drop.
func otherWay(draw *rand.Rand, p []impl.Want) []impl.Want {
	other := slices.Clone(p)
	for _, at := range draw.Perm(len(p)) {
		if p[at].To != 0 {
			other[at].Via = draw.IntN(5)
			break
		}
	}
	return other
}

// someFitCases is fitting cases, the same with changed tables and with other policies, and policies with tables made for no policy.
var someFitCases = sync.OnceValue(func() []fitCase {
	draw := rand.New(rand.NewPCG(31, 31))
	var l []fitCase
	for i, k := range fittingCases() {
		l = append(l, k)
		tables := changedTables(draw, k)
		l = append(l, fitCase{wired{k.n, tables[i%len(tables)]}, k.p}, fitCase{wired{k.n, tables[(i/2+7)%len(tables)]}, k.p})
		l = append(l, fitCase{k.wired, somePolicies()[i*i%len(somePolicies())]}, fitCase{k.wired, otherWay(draw, k.p)})
		if at := draw.IntN(6); at < len(k.p) {
			g, other := drawGoal(draw), slices.Clone(k.p)
			other[at].To, other[at].Via = g.to, g.via
			l = append(l, fitCase{k.wired, other}, fitCase{k.wired, slices.Delete(slices.Clone(k.p), at, at+1)})
		}
	}
	for i, w := range reachConfs() {
		l = append(l, fitCase{w, somePolicies()[i%len(somePolicies())]}, fitCase{w, nil})
	}
	return l
})

// What the configurations have to contain, so that the tests below mean something.
func TestPolicyLimitsFits(t *testing.T) {
	fits, one, way, long := 0, 0, 0, 0
	met := map[goal]int{}
	for _, k := range someFitCases() {
		if !wantNetOk(k.n) || len(k.c) != 4 {
			t.Fatalf("%v", k)
		}
		g, wrong, missed := wantGoals(k.p), 0, 0
		for _, s := range sentSpots() {
			w := wantWalk(k.n, k.c, s)
			switch {
			case w.meets(g.of(s)):
				met[g.of(s)]++
				continue
			case w.wantEnd() == g.of(s).to:
				missed++
			case w.long() && g.of(s).to == 0:
				long++
			}
			wrong++
		}
		switch {
		case wrong == 0:
			fits++
		case wrong == missed:
			way++
		case wrong == 1:
			one++
		}
	}
	if fits < 600 || one < 150 || way < 100 || len(someFitCases())-fits < 1000 || long < 100 {
		t.Errorf("of %d, %d fit, %d do not for one packet alone, %d for ways alone; %d packets that are to be dropped go round", len(someFitCases()), fits, one, way, long)
	}
	for _, g := range allGoals() {
		if met[g] < 100 {
			t.Errorf("%d packets come as %v wants", met[g], g)
		}
	}
}

// Promise 93, by the document's definition.
func TestPolicyFitsEach(t *testing.T) {
	for _, k := range fittingCases() {
		checkFits(t, k, true)
	}
	for _, k := range someFitCases() {
		checkFits(t, k, wantFits(k))
	}
}

// Promise 93, in its own words.
func TestPolicyFitsWalks(t *testing.T) {
	for _, k := range someFitCases() {
		want := true
		for _, s := range sentSpots() {
			to, via := impl.PolicyAt(k.p, s.Head)
			want = want && impl.WalkEnd(k.n, k.c, s) == to && (via == 0 || walkOf(k.n, k.c, s).visits(via))
		}
		checkFits(t, k, want)
	}
}

// homePolicy wants of each packet that it comes to the host that sends it, as hostConf does.
func homePolicy() []impl.Want {
	return wantsOf("s0 1 0", "s1 2 0", "s2 3 0", "s3 4 0")
}

// Promise 93: the tables send one packet alone another way: to the next host, dropped by a rule or for want of a link, or round and round. That is wrong if and only if a host sends it.
func TestPolicyFitsOnePacket(t *testing.T) {
	n := ringNet()
	for _, s := range everySpot() {
		next := s.Sw%4 + 1
		for _, c := range [][][]impl.Rule{
			withSend(hostConf(), s, next, s.Head.Tag),
			withSend(withSend(hostConf(), s, next, 3), impl.Spot{Sw: next, Head: impl.Head{Src: s.Head.Src, Dst: s.Head.Dst, Tag: 3}}, s.Sw, s.Head.Tag),
			withTable(hostConf(), s.Sw, withRule(hostConf()[0], impl.Rule{Prio: 9, Match: impl.WildOf(s.Head), Out: 0, Tag: -1})),
			withTable(hostConf(), s.Sw, withRule(hostConf()[0], impl.Rule{Prio: 9, Match: impl.WildOf(s.Head), Out: 3, Tag: 2})),
		} {
			checkFits(t, fitCase{wired{n, c}, homePolicy()}, !sent(s))
			dropped := fitCase{wired{n, c}, append(wantsOf(headPred(s.Head)+" 0 0"), homePolicy()...)}
			checkFits(t, dropped, wantFits(dropped))
		}
	}
}

// Promise 93: the tables handle the packets that hosts send alone, and drop all others, or one of those too.
func TestPolicyFitsSentAlone(t *testing.T) {
	c := make([][]impl.Rule, 4)
	for _, s := range sentSpots() {
		c = withLastRule(c, s, 4, -1)
	}
	checkFits(t, fitCase{wired{nil, c}, homePolicy()}, true)
	checkFits(t, fitCase{wired{fullNet(), c}, homePolicy()}, true)
	for _, s := range sentSpots() {
		r := impl.Rule{Prio: 5, Match: impl.WildOf(s.Head), Out: 4, Tag: -1}
		less := withTable(c, s.Sw, withoutRule(c[s.Sw-1], r))
		one := withTable(make([][]impl.Rule, 4), s.Sw, []impl.Rule{r})
		checkFits(t, fitCase{wired{fullNet(), less}, homePolicy()}, false)
		checkFits(t, fitCase{wired{fullNet(), less}, append(wantsOf(headPred(s.Head)+" 0 0"), homePolicy()...)}, true)
		checkFits(t, fitCase{wired{fullNet(), less}, nil}, false)
		checkFits(t, fitCase{wired{fullNet(), one}, nil}, false)
		for _, to := range allSwitches() {
			for via := range 5 {
				p := []impl.Want{{Pred: headPred(s.Head), To: to, Via: via}}
				checkFits(t, fitCase{wired{fullNet(), one}, p}, to == s.Sw && (via == 0 || via == s.Sw))
				checkFits(t, fitCase{wired{fullNet(), make([][]impl.Rule, 4)}, p}, false)
			}
		}
	}
}

// Tables and policies written out: ways along the line and round the ring, by a Via that is the first, a middle or the last switch or none of them, drops of every kind, tags that change, and packets that come back to their host.
func TestPolicyFitsCases(t *testing.T) {
	line, ring := lineNet(), ringNet()
	right := confOf("5 00xxxx 1 -", "5 00xxxx 2 -", "5 00xxxx 2 -", "5 00xxxx 4 -")
	third := withTable(right, 3, rulesOf("5 00xxxx 4 -"))
	middle := confOf("", "5 01xxxx 2 -", "5 01xxxx 2 -", "5 01xxxx 4 -")
	tagged := confOf("5 000000 1 1", "5 000001 2 2", "5 000010 2 3", "5 000011 4 0")
	back := confOf("5 00xx00 1 1, 5 00xx01 4 0", "5 00xx01 1 -", "", "")
	each := confOf("5 00xx00 1 1, 4 11xxxx 4 -", "5 00xx01 2 -, 5 01xxxx 0 -, 5 10xxxx 4 2", "5 00xx01 4 0, 5 10xx00 1 3", "5 11xx00 2 2")
	for i, k := range []struct {
		n       []impl.Link
		c       [][]impl.Rule
		fits    string
		misfits string
	}{
		{line, right, "s0 4 0; s0 4 1; s0 4 2; s0 4 3; s0 4 4", "; s0 3 0; s0 3 3; 1 4 0; s1 4 0; s0 1 0; s0 0 0"},
		{line, third, "s0 3 0; s0 3 1; s0 3 2; s0 3 3", "s0 3 4; s0 4 0; s0 2 2"},
		{line, middle, "s1 4 0; s1 4 2; s1 4 3; s1 4 4", "s1 4 1; s0 4 0; |s0s1 4 0; s1 3 3; &s1!d2 4 0"},
		{line, tagged, "&s0d0 4 0; &s0d0 4 2; &s0&d0t0 4 3; &s0&d0!t1 4 1", "&s0d0 1 0; &s0&d0t1 4 0; s0 4 0; "},
		{ring, withTable(third, 1, rulesOf("5 00xxxx 1 -")), "s0 3 0; s0 3 2", "s0 3 4"},
		{ring, confOf("5 00xxxx 2 -", "", "5 00xxxx 4 -", "5 00xxxx 1 -"), "s0 3 0; s0 3 1; s0 3 3; s0 3 4", "s0 3 2"},
		{ring, withTable(third, 1, rulesOf("5 0011xx 1 -")), "&s0d3 3 2; d0 0 0,&s0d3 3 0", "s0 3 0; &s0d3 3 4; &s0d2 3 0"},
		{line, back, "s0 1 0; s0 1 1; s0 1 2", "s0 1 3; s0 1 4; s0 2 0; s0 2 2; "},
		{line, confOf("5 00xxxx 4 3", "", "", ""), "s0 1 0; s0 1 1", "s0 1 2; s0 2 0; s1 1 0"},
		{line, hostConf(), "s0 1 0,s1 2 2,s2 3 0,1 4 4", "s0 1 0,s1 2 1,s2 3 0,1 4 4; 1 1 0; s0 1 0,s1 2 0,s2 4 0,s3 3 0; "},
		{ring, each, "s0 3 2,s1 0 0,s2 2 0,s3 1 4; s0 3 1,s2 2 2,s3 1 1; s0 3 3,s2 2 3,s3 1 0", "s0 3 4,s1 0 0,s2 2 0,s3 1 4; s0 3 2,s1 0 0,s2 2 0; s0 3 2,s1 2 0,s2 2 0,s3 1 4; s0 3 0,s2 2 1,s3 1 0"},
		{line, make([][]impl.Rule, 4), "; 1 0 0; 0 1 0; t3 4 4; !t0 2 0", "1 1 0; t0 3 3; &s3d3 4 0; &s0d0 1 1"},
		{line, confOf("5 000001 4 -", "5 00xxxx 4 0", "5 xxxx1x 4 -", "5 0xxxxx 4 -, 5 10xxxx 4 -"), "; t1 1 0", "&s0d0 1 0; s0 2 0"},
		{line, confOf("5 xxxxxx 0 3", "5 xxxxxx 3 -", "5 xxxx1x 4 -, 5 x1xxxx 4 0", "5 xxxxxx 2 1"), "; 1 0 0", "s0 1 0; s2 3 0"},
		{line, confOf("5 xxxxxx 1 3", "5 xxxxxx 2 -", "5 xxxx0x 2 -, 5 xxxx1x 0 0", "5 00xxxx 4 -"), "; 1 0 0", "s0 3 0; 1 3 3"},
		{netOf("1.2 2.2", "2.1 1.3"), confOf("5 00xxxx 2 -", "5 xxxxxx 2 -", "", ""), "", "; s0 0 0; 1 0 0; s0 1 0; s0 2 0; s0 2 1; s0 2 2"},
		{ring, countingConf("5 xxxx11 4 -"), "1 4 0; 1 4 1; 1 4 2; 1 4 3; 1 4 4; s0 4 1,!s0 4 2", "; 1 3 0; !s2 4 0; 1 1 4"},
		{ring, countingConf("5 xxxx11 0 0"), "; 1 0 0", "1 4 0; s0 4 0; s3 1 0"},
		{ring, countingConf("5 xxxx11 3 0"), "; 1 0 0", "1 4 0; s0 4 0; s3 1 0"},
		{ring, countingConf("5 00xx11 4 0"), "s0 4 2; s0 4 0", "; 1 4 0; s1 4 0"},
		{ring, countingConf("5 xxxx11 2 0"), "", "; 1 0 0; 1 4 0; s0 4 1,s1 1 0,s2 2 0,s3 3 0"},
		{ring, countingConf("5 xxxx11 2 0, 4 00xx11 4 0"), "", "; 1 0 0; s0 4 0; 1 4 0"},
		{ring, countingConf("5 11xx11 2 0, 4 xxxx11 0 0"), "", "; 1 0 0; s3 0 0; s3 4 0; s3 1 0"},
	} {
		checkFitTexts(t, i, wired{k.n, k.c}, k.fits, true)
		checkFitTexts(t, i, wired{k.n, k.c}, k.misfits, false)
	}
}

// checkFitTexts is for policies between semicolons, whose requirements are between commas. A policy without text has none; where there is no text at all, there is no policy either.
func checkFitTexts(t *testing.T, i int, w wired, texts string, want bool) {
	t.Helper()
	if texts == "" {
		return
	}
	for _, text := range strings.Split(texts, ";") {
		var p []impl.Want
		if text = strings.TrimSpace(text); text != "" {
			p = wantsOf(strings.Split(text, ",")...)
		}
		if impl.PolicyFits(w.n, w.c, p) != want || wantFits(fitCase{w, p}) != want {
			t.Errorf("case %d: PolicyFits(%v, %v, %v) is %v", i, w.n, w.c, p, impl.PolicyFits(w.n, w.c, p))
		}
	}
}

// Promise 93: rules for packets that no host sends, and that no packet becomes that a host sends, are of no account.
func TestPolicyFitsOtherPackets(t *testing.T) {
	draw := rand.New(rand.NewPCG(16, 31))
	tagged, src, spots := 0, 0, everySpot()
	for _, k := range fittingCases() {
		visited := map[impl.Spot]bool{}
		for _, s := range sentSpots() {
			for _, v := range wantWalk(k.n, k.c, s).way {
				visited[v] = true
			}
		}
		c := cloneConf(k.c)
		for _, i := range draw.Perm(256) {
			s := spots[i]
			if visited[s] || len(c[s.Sw-1]) == 48 {
				continue
			}
			c[s.Sw-1] = append(c[s.Sw-1], impl.Rule{Prio: 9, Match: impl.WildOf(s.Head), Out: draw.IntN(5), Tag: draw.IntN(5) - 1})
			if s.Head.Tag != 0 {
				tagged++
			} else {
				src++
			}
		}
		for i, table := range c {
			c[i] = inOrder(table)
		}
		checkFits(t, fitCase{wired{k.n, c}, k.p}, true)
	}
	if tagged < 10000 || src < 3000 {
		t.Errorf("%d rules for another Tag, and %d for another Src", tagged, src)
	}
}

// checkNoPolicy is what every function says of what is no policy.
func checkNoPolicy(t *testing.T, no []impl.Want, w wired) {
	t.Helper()
	checkPolicyOk(t, no, false)
	for _, h := range []impl.Head{{}, {Src: 1, Dst: 2, Tag: 3}, {Src: 3, Dst: 3, Tag: 3}, {Src: 4}, {Tag: -1}} {
		checkGoal(t, no, h, goal{})
	}
	for to := -1; to <= 5; to++ {
		checkPolicyTo(t, no, to, nil)
	}
	checkFits(t, fitCase{w, no}, false)
	for _, p := range [][]impl.Want{nil, fullWants(), wantsOf("1 3 0"), no, slices.Clone(no)} {
		checkSamePolicy(t, no, p, false)
	}
}

// thirdConf brings all packets of ringNet to host 3.
func thirdConf() [][]impl.Rule {
	return confOf("5 xxxxxx 1 -", "5 xxxxxx 2 -", "5 xxxxxx 4 -", "5 xxxxxx 1 -")
}

// What is no policy, for every function: also where the tables drop all packets, or bring all to the host that it would want.
func TestPolicyRejects(t *testing.T) {
	third := wired{ringNet(), thirdConf()}
	checkFits(t, fitCase{third, wantsOf("1 3 0")}, true)
	for _, no := range noPolicies() {
		checkNoPolicy(t, no, wired{nil, make([][]impl.Rule, 4)})
		checkFits(t, fitCase{third, no}, false)
		checkFits(t, fitCase{wired{ringNet(), hostConf()}, no}, false)
	}
}

// Each of the two policies invalid, in another way than the other or in the same.
func TestPolicySameInvalid(t *testing.T) {
	no := fewNoPolicies()
	good := [][]impl.Want{nil, fullWants(), wantsOf("1 3 0"), wantsOf("0 0 0")}
	for i, a := range no {
		for _, b := range slices.Concat(no[i:min(i+9, len(no))], good) {
			checkSamePolicy(t, a, b, false)
		}
	}
	for _, p := range good {
		checkSamePolicy(t, p, p, true)
		checkSamePolicy(t, p, slices.Clone(p), true)
	}
}

// An invalid header in each of its fields, alone and several together, also where a condition holds for every header.
func TestPolicyAtNoHead(t *testing.T) {
	for _, p := range [][]impl.Want{nil, wantsOf("1 3 2"), wantsOf("!s0 4 0", "s0 1 1"), wantsOf("0 2 0"), fullWants(), homePolicy()} {
		for _, h := range invalidHeads() {
			checkGoal(t, p, h, goal{})
		}
	}
	for _, p := range somePolicies() {
		for _, v := range beyond {
			for _, h := range []impl.Head{{Src: v, Dst: 1, Tag: 2}, {Src: 1, Dst: v, Tag: 2}, {Src: 1, Dst: 2, Tag: v}, {Src: v, Dst: v, Tag: v}} {
				checkGoal(t, p, h, goal{})
			}
		}
	}
}

// A host that there is not, alone and with what is no policy.
func TestPolicyToNoHost(t *testing.T) {
	for _, no := range noHosts() {
		for _, p := range somePolicies() {
			checkPolicyTo(t, p, no, nil)
		}
		for _, p := range fewNoPolicies() {
			checkPolicyTo(t, p, no, nil)
		}
	}
}

// Links that are no network, alone: also where no packet needs a link.
func TestPolicyFitsNoNet(t *testing.T) {
	for _, n := range noNets() {
		checkFits(t, fitCase{wired{n, make([][]impl.Rule, 4)}, nil}, false)
		checkFits(t, fitCase{wired{n, hostConf()}, homePolicy()}, false)
		checkFits(t, fitCase{wired{n, thirdConf()}, wantsOf("1 3 0")}, false)
	}
}

// Tables that are no configuration, alone, also where no packet comes to the invalid one.
func TestPolicyFitsNoConf(t *testing.T) {
	for _, c := range noConfs() {
		checkFits(t, fitCase{wired{nil, c}, homePolicy()}, false)
		checkFits(t, fitCase{wired{ringNet(), c}, nil}, false)
	}
	for i, no := range noTables() {
		sw := 1 + i%4
		checkFits(t, fitCase{wired{ringNet(), withTable(thirdConf(), sw, no)}, wantsOf("1 3 0")}, false)
	}
	near := confOf("5 00xxxx 1 -", "5 00xxxx 4 -", "", "")
	checkFits(t, fitCase{wired{lineNet(), near}, wantsOf("s0 2 0")}, true)
	for _, no := range noTables() {
		for sw := 3; sw <= 4; sw++ {
			checkFits(t, fitCase{wired{lineNet(), withTable(near, sw, no)}, wantsOf("s0 2 0")}, false)
		}
	}
}

// Several invalid arguments together.
func TestPolicyFitsNoneTogether(t *testing.T) {
	nets := append(takenNets()[:6], make([]impl.Link, 7), ringNet())
	confs := append([][][]impl.Rule{nil, make([][]impl.Rule, 3), make([][]impl.Rule, 5)}, invalidConfs()...)
	confs = append(confs, thirdConf())
	policies := append(fewNoPolicies(), wantsOf("1 3 0"))
	fits := 0
	for _, n := range nets {
		for _, c := range confs {
			for _, p := range policies {
				if impl.PolicyFits(n, c, p) {
					fits++
				}
			}
		}
	}
	if fits != 1 {
		t.Errorf("%d of %d fit", fits, len(nets)*len(confs)*len(policies))
	}
	checkFits(t, fitCase{wired{ringNet(), thirdConf()}, wantsOf("1 3 0")}, true)
}

// No requirement, also as a nil slice, for every function.
func TestPolicyEmpty(t *testing.T) {
	for _, empty := range [][]impl.Want{nil, {}, fullWants()[:0]} {
		checkPolicyOk(t, empty, true)
		checkGoals(t, empty, goals{})
		for _, other := range [][]impl.Want{nil, {}, wantsOf("1 0 0"), wantsOf("0 1 0")} {
			checkSamePolicy(t, empty, other, true)
		}
		checkSamePolicy(t, empty, wantsOf("&s0d0 1 0"), false)
		checkSamePolicy(t, empty, wantsOf("&s3d3 4 4"), false)
		for _, n := range [][]impl.Link{nil, {}, ringNet(), fullNet()} {
			checkFits(t, fitCase{wired{n, make([][]impl.Rule, 4)}, empty}, true)
			checkFits(t, fitCase{wired{n, [][]impl.Rule{{}, {}, {}, {}}}, empty}, true)
			checkFits(t, fitCase{wired{n, hostConf()}, empty}, false)
		}
	}
}

// ownWants is a copy of a policy whose conditions have memory of their own, with requirements behind its end that are filled too.
func ownWants(p []impl.Want) []impl.Want {
	own := make([]impl.Want, 0, len(p)+4)
	for _, w := range p {
		w.Pred = strings.Clone(w.Pred)
		own = append(own, w)
	}
	for i := range 4 {
		own = append(own, impl.Want{Pred: "spare", To: -7 - i, Via: -7})
	}
	return own[:len(p)]
}

// No list shares memory with another one, also of the same call, nor with a condition, and filling all of them changes nothing.
func TestPolicyToOwnMemory(t *testing.T) {
	for _, kept := range somePolicies() {
		p := ownWants(kept)
		var lists [][]string
		var texts []string
		for i := range 10 {
			lists = append(lists, impl.PolicyTo(p, i%5))
		}
		for _, w := range p {
			texts = append(texts, w.Pred)
		}
		for i, a := range lists {
			for _, b := range lists[:i] {
				if slicesMeet(a, b) {
					t.Fatalf("of %v, %q and %q share memory", p, a, b)
				}
			}
			for _, text := range a {
				if slices.ContainsFunc(texts, func(other string) bool { return bytesMeet(text, other) }) {
					t.Fatalf("of %v, %q shares memory", p, text)
				}
				texts = append(texts, text)
			}
		}
		for _, a := range lists {
			fill(a, "changed")
		}
		checkGoals(t, p, wantGoals(kept))
	}
}

// checkPolicyKeeps makes each call with a copy of a policy, and looks whether this is as it was, also behind its end.
func checkPolicyKeeps(t *testing.T, kept []impl.Want, i int) {
	t.Helper()
	p, h := ownWants(kept), validHeads()[i*7%64]
	before := slices.Clone(p[:cap(p)])
	for j, call := range []func(){
		func() { impl.PolicyOk(p) },
		func() { impl.PolicyAt(p, h) },
		func() { impl.PolicyAt(p, impl.Head{Src: -1}) },
		func() { impl.PolicyTo(p, i%5) },
		func() { impl.PolicyTo(p, -1) },
		func() { impl.PolicyFits(ringNet(), thirdConf(), p) },
		func() { impl.PolicyFits(ringNet(), nil, p) },
		func() { impl.PolicySame(p, p) },
		func() { impl.PolicySame(p, fullWants()) },
		func() { impl.PolicySame(fullWants(), p) },
	} {
		call()
		if !slices.Equal(p[:cap(p)], before) {
			t.Fatalf("call %d has made of %v\n%v", j, before, p[:cap(p)])
		}
	}
}

// The arguments are as they were, and what is behind the ends of the slices does not count.
func TestPolicyArgumentsKept(t *testing.T) {
	for i, kept := range somePolicies() {
		checkPolicyKeeps(t, kept, i)
		p, k := ownWants(kept), fittingCases()[i]
		checkPolicyOk(t, p, true)
		checkPolicyOk(t, p[:len(p)+1], false)
		checkGoals(t, p, wantGoals(kept))
		checkSamePolicy(t, p, kept, true)
		checkNoPolicy(t, p[:len(p)+1], k.wired)
		checkFits(t, fitCase{wired{ownNet(k.n), ownConf(k.c)}, ownWants(k.p)}, true)
		checkFits(t, fitCase{wired{k.n, ownConf(k.c)[:5]}, k.p}, false)
	}
	for i, no := range noPolicies() {
		checkPolicyKeeps(t, no, i)
	}
}

// PolicyFits leaves the links and the tables as they were, also those that it rejects.
func TestPolicyFitsArgumentsKept(t *testing.T) {
	for i, k := range someFitCases() {
		no := noPolicies()[i%len(noPolicies())]
		checkCallsKeep(t, k.n, k.c, []func(n []impl.Link, c [][]impl.Rule){
			func(n []impl.Link, c [][]impl.Rule) { impl.PolicyFits(n, c, k.p) },
			func(n []impl.Link, c [][]impl.Rule) { impl.PolicyFits(n, c, no) },
			func(n []impl.Link, c [][]impl.Rule) { impl.PolicyFits(n, c[:3], k.p) },
		})
	}
	call := []func(n []impl.Link, c [][]impl.Rule){func(n []impl.Link, c [][]impl.Rule) { impl.PolicyFits(n, c, homePolicy()) }}
	for _, n := range noNets() {
		checkCallsKeep(t, n, hostConf(), call)
	}
	for _, c := range noConfs() {
		checkCallsKeep(t, ringNet(), c, call)
	}
}

// The same call many times in a row gives the same answer, also with other calls in between.
func TestPolicyAgain(t *testing.T) {
	for i, p := range namedPolicies() {
		want, other := wantGoals(p), namedPolicies()[(i+1)%len(namedPolicies())]
		same := wantSamePolicy(p, other)
		for range 30 {
			checkPolicyOk(t, p, true)
			checkGoals(t, p, want)
			checkSamePolicy(t, p, other, same)
			checkSamePolicy(t, p, p, true)
		}
	}
	cases := someFitCases()
	for i := range 100 {
		k := cases[i*i%len(cases)]
		want := wantFits(k)
		for range 20 {
			checkFits(t, k, want)
		}
	}
	for i := range 2000 {
		p, h, to := somePolicies()[i*i%len(somePolicies())], validHeads()[i%64], i%5
		first, via := impl.PolicyAt(p, h)
		list := impl.PolicyTo(p, to)
		checkPolicyOk(t, noPolicies()[i], false)
		checkGoal(t, noPolicies()[i], h, goal{})
		checkGoal(t, p, impl.Head{Tag: 4}, goal{})
		checkFits(t, fitCase{wired{cases[i].n, cases[i].c[:3]}, p}, false)
		checkGoal(t, p, h, goal{first, via})
		checkPolicyTo(t, p, to, list)
	}
}
