package tests

import (
	"fmt"
	"math"
	"math/rand/v2"
	"slices"
	"strings"
	"sync"
	"testing"
	"unsafe"

	"loop.example/crossbuck/impl"
)

// netSide is a port of a switch; the zero value is none.
type netSide struct {
	sw   int
	port int
}

// netAnswers is what the functions say of a network, by switch and port, or by two switches.
type netAnswers struct {
	peers [5][4]netSide
	fars  [5][5]int
	nexts [5][5]int
	ways  [5][5]string
	ports [5][5]int
}

// everyNet is every network there is, each in one order of its links and of their ends, drawn by a fixed seed.
var everyNet = sync.OnceValue(func() [][]impl.Link {
	draw := rand.New(rand.NewPCG(21, 21))
	var l [][]impl.Link
	for _, n := range netsOf(allSides()) {
		l = append(l, drawOrder(draw, n))
	}
	return l
})

// allSides is the ports to which links can be attached.
func allSides() []netSide {
	var l []netSide
	for sw := 1; sw <= 4; sw++ {
		for port := 1; port <= 3; port++ {
			l = append(l, netSide{sw, port})
		}
	}
	return l
}

// netsOf is every network whose links are between some ports.
func netsOf(sides []netSide) [][]impl.Link {
	if len(sides) == 0 {
		return [][]impl.Link{nil}
	}
	first, rest := sides[0], sides[1:]
	l := netsOf(rest)
	for i, side := range rest {
		if side.sw == first.sw {
			continue
		}
		for _, n := range netsOf(slices.Delete(slices.Clone(rest), i, i+1)) {
			l = append(l, append(slices.Clone(n), linkOf(first, side)))
		}
	}
	return l
}

func linkOf(a netSide, b netSide) impl.Link {
	return impl.Link{A: a.sw, APort: a.port, B: b.sw, BPort: b.port}
}

func sidesOf(l impl.Link) [2]netSide {
	return [2]netSide{{l.A, l.APort}, {l.B, l.BPort}}
}

func turned(l impl.Link) impl.Link {
	return impl.Link{A: l.B, APort: l.BPort, B: l.A, BPort: l.APort}
}

func drawOrder(draw *rand.Rand, n []impl.Link) []impl.Link {
	l := slices.Clone(n)
	draw.Shuffle(len(l), func(i int, j int) { l[i], l[j] = l[j], l[i] })
	for i := range l {
		if draw.IntN(2) == 1 {
			l[i] = turned(l[i])
		}
	}
	return l
}

// linkOrders is links in every order, with their ends in every order.
func linkOrders(n []impl.Link) [][]impl.Link {
	if len(n) == 0 {
		return [][]impl.Link{nil}
	}
	var l [][]impl.Link
	for i, first := range n {
		for _, rest := range linkOrders(slices.Delete(slices.Clone(n), i, i+1)) {
			l = append(l, append([]impl.Link{first}, rest...), append([]impl.Link{turned(first)}, rest...))
		}
	}
	return l
}

// netOf is the links of some texts, such as "1.2 3.1" for port 2 of switch 1 and port 1 of switch 3.
func netOf(texts ...string) []impl.Link {
	n := []impl.Link{}
	for _, text := range texts {
		var l impl.Link
		if _, err := fmt.Sscanf(text, "%d.%d %d.%d", &l.A, &l.APort, &l.B, &l.BPort); err != nil {
			panic("no link: " + text)
		}
		n = append(n, l)
	}
	return n
}

func ringNet() []impl.Link {
	return netOf("1.1 2.1", "2.2 3.1", "3.2 4.1", "4.2 1.2")
}

// fullNet has a link between every two switches.
func fullNet() []impl.Link {
	return netOf("1.1 2.1", "1.2 3.1", "1.3 4.1", "2.2 3.2", "2.3 4.2", "3.3 4.3")
}

// namedNets is the networks that the document's definitions single out.
func namedNets() [][]impl.Link {
	return [][]impl.Link{
		nil,
		{},
		netOf("1.1 2.1"),
		netOf("4.3 1.3"),
		netOf("3.2 2.3"),
		netOf("1.1 2.1", "2.2 3.1", "3.2 4.1"),
		netOf("1.3 4.1", "4.3 2.2", "2.1 3.2"),
		ringNet(),
		netOf("2.1 1.1", "2.2 3.1", "2.3 4.1"),
		netOf("1.1 2.1", "3.3 4.3"),
		netOf("1.1 2.3", "1.2 2.2", "1.3 2.1", "3.1 4.1", "3.2 4.3", "3.3 4.2"),
		netOf("1.1 2.1", "2.2 3.1", "3.2 1.2"),
		netOf("1.2 2.2", "2.1 1.3"),
		netOf("1.2 2.2", "2.1 1.3", "2.3 3.1", "3.3 4.2"),
		fullNet(),
		netOf("4.3 3.3", "4.2 2.3", "3.2 2.2", "4.1 1.3", "3.1 1.2", "2.1 1.1"),
		netOf("1.1 2.2", "2.3 3.3", "3.1 4.1", "4.2 1.2", "1.3 2.1", "3.2 4.3"),
	}
}

// someNets is the named networks and every thirteenth of all.
func someNets() [][]impl.Link {
	l := namedNets()
	for i := 0; i < len(everyNet()); i += 13 {
		l = append(l, everyNet()[i])
	}
	return l
}

// wantNetOk is NetOk, by the document's definition.
func wantNetOk(n []impl.Link) bool {
	var taken [5][4]bool
	for _, l := range n {
		for _, s := range sidesOf(l) {
			if s.sw < 1 || s.sw > 4 || s.port < 1 || s.port > 3 || taken[s.sw][s.port] {
				return false
			}
			taken[s.sw][s.port] = true
		}
		if l.A == l.B {
			return false
		}
	}
	return len(n) <= 6
}

// wantPeer is the other end of the link of a port, or none.
func wantPeer(n []impl.Link, side netSide) netSide {
	for _, l := range n {
		for _, end := range []impl.Link{l, turned(l)} {
			if end.A == side.sw && end.APort == side.port {
				return netSide{end.B, end.BPort}
			}
		}
	}
	return netSide{}
}

// wantFars is the distances of every two switches, found by going by way of more and more switches.
func wantFars(n []impl.Link) [5][5]int {
	const none = 99
	var far [5][5]int
	for a := 1; a <= 4; a++ {
		for b := 1; b <= 4; b++ {
			if a != b {
				far[a][b] = none
			}
		}
	}
	for _, l := range n {
		far[l.A][l.B], far[l.B][l.A] = 1, 1
	}
	for via := 1; via <= 4; via++ {
		for a := 1; a <= 4; a++ {
			for b := 1; b <= 4; b++ {
				far[a][b] = min(far[a][b], far[a][via]+far[via][b])
			}
		}
	}
	for a := range far {
		for b := range far[a] {
			if far[a][b] >= none {
				far[a][b] = -1
			}
		}
	}
	return far
}

// wantAnswers is what the functions have to say of a network, by the document's definitions.
func wantAnswers(n []impl.Link) netAnswers {
	w := netAnswers{fars: wantFars(n)}
	for _, side := range slices.Backward(allSides()) {
		peer := wantPeer(n, side)
		w.peers[side.sw][side.port] = peer
		for to := 1; to <= 4 && peer != (netSide{}); to++ {
			if w.fars[peer.sw][to] >= 0 && w.fars[peer.sw][to] == w.fars[side.sw][to]-1 {
				w.nexts[side.sw][to] = side.port
			}
			if peer.sw == to {
				w.ports[side.sw][to] = side.port
			}
		}
	}
	for from := 1; from <= 4; from++ {
		for to := 1; to <= 4; to++ {
			w.ways[from][to] = w.way(from, to)
		}
	}
	return w
}

// way is the switches of a path that follows nexts.
func (w netAnswers) way(from int, to int) string {
	switch {
	case from == to:
		return wayText([]int{to})
	case w.nexts[from][to] == 0:
		return ""
	}
	return wayText([]int{from}) + w.way(w.peers[from][w.nexts[from][to]].sw, to)
}

func wayText(way []int) string {
	var text strings.Builder
	for _, sw := range way {
		text.WriteByte(byte('0' + sw))
	}
	return text.String()
}

// answersOf is what the functions say of a network.
func answersOf(n []impl.Link) netAnswers {
	var got netAnswers
	for _, side := range allSides() {
		sw, port, _ := impl.NetPeer(n, side.sw, side.port)
		got.peers[side.sw][side.port] = netSide{sw, port}
	}
	for from := 1; from <= 4; from++ {
		for to := 1; to <= 4; to++ {
			got.fars[from][to] = impl.NetFar(n, from, to)
			got.nexts[from][to] = impl.NetNext(n, from, to)
			got.ways[from][to] = wayText(impl.NetWay(n, from, to))
			got.ports[from][to] = impl.NetPort(n, from, to)
		}
	}
	return got
}

func checkAnswers(t *testing.T, n []impl.Link, want netAnswers) {
	t.Helper()
	if got := answersOf(n); got != want {
		t.Fatalf("of %v the functions say\n%v, not\n%v", n, got, want)
	}
}

func checkNetOk(t *testing.T, n []impl.Link, want bool) {
	t.Helper()
	if impl.NetOk(n) != want {
		t.Fatalf("NetOk(%v) is %v", n, !want)
	}
}

// pairs is every two switches, in either order, and each with itself.
func pairs() [][2]int {
	var l [][2]int
	for from := 1; from <= 4; from++ {
		for to := 1; to <= 4; to++ {
			l = append(l, [2]int{from, to})
		}
	}
	return l
}

// What the networks have to contain, so that the tests below mean something.
func TestNetLimits(t *testing.T) {
	if impl.SwitchMax != 4 || impl.PortMax != 3 || impl.PortHost != 4 || impl.LinkMax != 6 {
		t.Errorf("SwitchMax, PortMax, PortHost and LinkMax are %d, %d, %d and %d", impl.SwitchMax, impl.PortMax, impl.PortHost, impl.LinkMax)
	}
	var counts [7]int
	var fars [5]int
	for _, n := range everyNet() {
		if !wantNetOk(n) {
			t.Fatalf("%v is no network", n)
		}
		counts[len(n)]++
		for _, p := range pairs() {
			fars[wantFars(n)[p[0]][p[1]]+1]++
		}
	}
	if want := [7]int{1, 54, 999, 7704, 23976, 23976, 3348}; counts != want {
		t.Errorf("%v networks, by their number of links", counts)
	}
	if slices.Min(fars[:]) < 30000 {
		t.Errorf("%v pairs of switches, by their distance plus one", fars)
	}
	for _, n := range namedNets() {
		if !wantNetOk(n) {
			t.Errorf("%v is no network", n)
		}
	}
}

// Every function of every network, by the document's definitions.
func TestNetAnswersEach(t *testing.T) {
	for _, n := range append(namedNets(), everyNet()...) {
		checkAnswers(t, n, wantAnswers(n))
	}
}

// The numbers of some networks, written out.
func TestNetAnswersCases(t *testing.T) {
	line, star, full := netOf("1.3 4.1", "4.3 2.2", "2.1 3.2"), netOf("2.1 1.1", "2.2 3.1", "2.3 4.1"), fullNet()
	for _, c := range []struct {
		n                    []impl.Link
		from, to             int
		far, next, way, port int
	}{
		{line, 1, 3, 3, 3, 1423, 0},
		{line, 3, 1, 3, 2, 3241, 0},
		{line, 4, 3, 2, 3, 423, 0},
		{line, 4, 1, 1, 1, 41, 1},
		{line, 2, 2, 0, 0, 2, 0},
		{star, 1, 4, 2, 1, 124, 0},
		{star, 4, 3, 2, 1, 423, 0},
		{star, 2, 4, 1, 3, 24, 3},
		{full, 3, 2, 1, 2, 32, 2},
		{full, 1, 4, 1, 3, 14, 3},
		{netOf("1.3 2.1", "1.1 3.1", "2.2 4.1", "3.2 4.2"), 1, 4, 2, 1, 134, 0},
		{netOf("1.1 2.1", "1.3 3.1", "2.2 4.1", "3.2 4.2"), 1, 4, 2, 1, 124, 0},
		{netOf("1.3 2.1", "1.1 3.1", "2.2 4.1", "3.2 4.2"), 4, 1, 2, 1, 421, 0},
		{netOf("1.1 3.1", "3.2 4.1", "1.2 2.1", "1.3 2.2"), 2, 4, 3, 1, 2134, 0},
	} {
		far, next, port := impl.NetFar(c.n, c.from, c.to), impl.NetNext(c.n, c.from, c.to), impl.NetPort(c.n, c.from, c.to)
		way := wayText(impl.NetWay(c.n, c.from, c.to))
		if far != c.far || next != c.next || way != fmt.Sprint(c.way) || port != c.port {
			t.Errorf("of %v, from %d to %d, the functions say %d, %d, %s and %d", c.n, c.from, c.to, far, next, way, port)
		}
	}
}

// Promise 67.
func TestNetPeerEach(t *testing.T) {
	for _, n := range append(namedNets(), everyNet()...) {
		for _, side := range allSides() {
			want := wantPeer(n, side)
			sw, port, ok := impl.NetPeer(n, side.sw, side.port)
			if sw != want.sw || port != want.port || ok != (want != netSide{}) {
				t.Fatalf("NetPeer(%v, %d, %d) is %d, %d, %v", n, side.sw, side.port, sw, port, ok)
			}
			if !ok {
				continue
			}
			if backSw, backPort, backOk := impl.NetPeer(n, sw, port); backSw != side.sw || backPort != side.port || !backOk {
				t.Fatalf("NetPeer(%v, %d, %d) is %d, %d, %v, not %v", n, sw, port, backSw, backPort, backOk, side)
			}
		}
	}
}

func checkNoPeer(t *testing.T, n []impl.Link, sw int, port int) {
	t.Helper()
	if peer, peerPort, ok := impl.NetPeer(n, sw, port); peer != 0 || peerPort != 0 || ok {
		t.Fatalf("NetPeer(%v, %d, %d) is %d, %d, %v", n, sw, port, peer, peerPort, ok)
	}
}

// Promise 67: no port, and no switch.
func TestNetPeerNone(t *testing.T) {
	switches, ports := ruleNumbers(1, impl.SwitchMax), append(ruleNumbers(1, impl.PortMax), 0, impl.PortHost)
	for _, n := range someNets() {
		for sw := 1; sw <= 4; sw++ {
			for _, port := range ports {
				checkNoPeer(t, n, sw, port)
			}
		}
		for _, sw := range switches {
			for port := 0; port <= impl.PortHost; port++ {
				checkNoPeer(t, n, sw, port)
			}
		}
	}
	for _, n := range namedNets() {
		for _, sw := range switches {
			for _, port := range ports {
				checkNoPeer(t, n, sw, port)
			}
		}
	}
}

// Promise 68, in its own words.
func TestNetFarEach(t *testing.T) {
	for _, n := range append(namedNets(), everyNet()...) {
		far, want := answersOf(n).fars, wantFars(n)
		for _, p := range pairs() {
			a, b := p[0], p[1]
			linked := slices.ContainsFunc(n, func(l impl.Link) bool { return l.A == a && l.B == b || l.A == b && l.B == a })
			if far[a][b] != want[a][b] || far[a][b] != far[b][a] || (far[a][b] == 0) != (a == b) || (far[a][b] == 1) != linked {
				t.Fatalf("NetFar(%v) is %v", n, far)
			}
			for via := 1; via <= 4; via++ {
				if far[a][via] < 0 || far[via][b] < 0 {
					continue
				}
				if far[a][b] < 0 || far[a][b] > far[a][via]+far[via][b] {
					t.Fatalf("NetFar(%v) is %v: from %d to %d by way of %d is nearer", n, far, a, b, via)
				}
			}
		}
	}
}

// Promise 69, in its own words.
func TestNetNextEach(t *testing.T) {
	for _, n := range append(namedNets(), everyNet()...) {
		far := answersOf(n).fars
		for _, p := range pairs() {
			from, to := p[0], p[1]
			next := impl.NetNext(n, from, to)
			if (next == 0) != (from == to || far[from][to] == -1) {
				t.Fatalf("NetNext(%v, %d, %d) is %d", n, from, to, next)
			}
			for port := 1; port <= next; port++ {
				peer, _, ok := impl.NetPeer(n, from, port)
				if closer := ok && far[peer][to] == far[from][to]-1; closer != (port == next) {
					t.Fatalf("NetNext(%v, %d, %d) is %d, and port %d leads to %d", n, from, to, next, port, peer)
				}
			}
		}
	}
}

// Promise 70, in its own words.
func TestNetWayEach(t *testing.T) {
	for _, n := range append(namedNets(), everyNet()...) {
		for _, p := range pairs() {
			from, to := p[0], p[1]
			way, far := impl.NetWay(n, from, to), impl.NetFar(n, from, to)
			if len(way) != far+1 {
				t.Fatalf("NetWay(%v, %d, %d) is %v, and NetFar %d", n, from, to, way, far)
			}
			if far == -1 {
				continue
			}
			if way[0] != from || way[far] != to {
				t.Fatalf("NetWay(%v, %d, %d) is %v", n, from, to, way)
			}
			for i, sw := range way[:far] {
				next := impl.NetNext(n, sw, to)
				if peer, _, ok := impl.NetPeer(n, sw, next); !ok || peer != way[i+1] {
					t.Fatalf("NetWay(%v, %d, %d) is %v, and NetNext at %d is %d", n, from, to, way, sw, next)
				}
			}
		}
	}
}

// Promise 71.
func TestNetWaySuffixes(t *testing.T) {
	for _, n := range append(namedNets(), everyNet()...) {
		for _, p := range pairs() {
			way := impl.NetWay(n, p[0], p[1])
			for i, sw := range way {
				if slices.Contains(way[:i], sw) {
					t.Fatalf("NetWay(%v, %d, %d) is %v", n, p[0], p[1], way)
				}
				if rest := impl.NetWay(n, sw, p[1]); !slices.Equal(rest, way[i:]) {
					t.Fatalf("NetWay(%v, %d, %d) is %v, and of %d %v", n, p[0], p[1], way, sw, rest)
				}
			}
		}
	}
}

// checkCut is promise 72 of a network and one of its links.
func checkCut(t *testing.T, n []impl.Link, at int) {
	t.Helper()
	cut, ok := impl.NetCut(n, at)
	if !ok || !slices.Equal(cut, slices.Delete(slices.Clone(n), at, at+1)) || !impl.NetOk(cut) {
		t.Fatalf("NetCut(%v, %d) is %v, %v", n, at, cut, ok)
	}
	before, after := answersOf(n), answersOf(cut)
	for _, p := range pairs() {
		far, less := before.fars[p[0]][p[1]], after.fars[p[0]][p[1]]
		if far == -1 && less != -1 || less != -1 && less < far {
			t.Fatalf("NetFar(%v, %d, %d) is %d, and without link %d %d", n, p[0], p[1], far, at, less)
		}
	}
	for _, end := range sidesOf(n[at]) {
		checkNoPeer(t, cut, end.sw, end.port)
		before.peers[end.sw][end.port] = netSide{}
	}
	if after.peers != before.peers {
		t.Fatalf("without link %d, the peers of %v are %v, not %v", at, n, after.peers, before.peers)
	}
}

// Promise 72, for each link of each network.
func TestNetCutEach(t *testing.T) {
	for _, n := range append(namedNets(), everyNet()...) {
		for at := range n {
			checkCut(t, n, at)
		}
	}
}

// Promise 72: a pair that is no longer connected, and one that has to go farther.
func TestNetCutCases(t *testing.T) {
	ring := ringNet()
	for _, c := range []struct {
		n        []impl.Link
		at       int
		from, to int
		far      int
	}{
		{ring, 0, 1, 2, 3},
		{ring, 3, 4, 1, 3},
		{ring, 1, 1, 3, 2},
		{ring[:3], 1, 1, 3, -1},
		{ring[:3], 1, 1, 2, 1},
		{ring[:3], 1, 4, 3, 1},
		{ring[:1], 0, 1, 2, -1},
		{netOf("1.2 2.2", "2.1 1.3"), 0, 1, 2, 1},
		{netOf("1.2 2.2", "2.1 1.3"), 1, 2, 1, 1},
	} {
		cut, ok := impl.NetCut(c.n, c.at)
		if far := impl.NetFar(cut, c.from, c.to); !ok || far != c.far {
			t.Errorf("NetFar from %d to %d of %v, %v, which is NetCut(%v, %d), is %d", c.from, c.to, cut, ok, c.n, c.at, far)
		}
	}
}

// Which links there are: the first, a middle and the last one; and all others are none, also where the slice goes on behind its end.
func TestNetCutIndexes(t *testing.T) {
	six := fullNet()
	for count := range 7 {
		n := six[:count]
		for at := -8; at <= 8; at++ {
			cut, ok := impl.NetCut(n, at)
			switch {
			case at < 0 || at >= count:
				if ok || len(cut) != 0 {
					t.Errorf("NetCut(%v, %d) is %v, %v", n, at, cut, ok)
				}
			case !ok || len(cut) != count-1 || !slices.Equal(cut[:at], six[:at]) || !slices.Equal(cut[at:], six[at+1:count]):
				t.Errorf("NetCut(%v, %d) is %v, %v", n, at, cut, ok)
			}
		}
	}
	for _, n := range append(someNets(), nil, []impl.Link{}, six[:0]) {
		for _, at := range append(ruleNumbers(0, max(0, len(n)-1)), -1, len(n), math.MinInt, math.MaxInt) {
			if at >= 0 && at < len(n) {
				continue
			}
			if cut, ok := impl.NetCut(n, at); ok || len(cut) != 0 {
				t.Fatalf("NetCut(%v, %d) is %v, %v", n, at, cut, ok)
			}
		}
	}
}

// Promise 73, in its own words.
func TestNetPortEach(t *testing.T) {
	for _, n := range append(namedNets(), everyNet()...) {
		for _, p := range pairs() {
			want := 0
			for port := 3; port >= 1; port-- {
				if peer, _, ok := impl.NetPeer(n, p[0], port); ok && peer == p[1] {
					want = port
				}
			}
			if port := impl.NetPort(n, p[0], p[1]); port != want {
				t.Fatalf("NetPort(%v, %d, %d) is %d", n, p[0], p[1], port)
			}
		}
	}
}

// Promise 74: every network, and without any one link.
func TestNetOkEach(t *testing.T) {
	for _, n := range append(namedNets(), everyNet()...) {
		checkNetOk(t, n, true)
		for at := range n {
			checkNetOk(t, slices.Delete(slices.Clone(n), at, at+1), true)
		}
	}
}

// Promise 74: every network with every further link between ports that there are. Its place goes round.
func TestNetOkFurther(t *testing.T) {
	sides := allSides()
	for i, n := range append(namedNets(), everyNet()...) {
		var taken [5][4]bool
		for _, l := range n {
			taken[l.A][l.APort], taken[l.B][l.BPort] = true, true
		}
		for j, a := range sides {
			for k, b := range sides {
				want := a.sw != b.sw && !taken[a.sw][a.port] && !taken[b.sw][b.port]
				checkNetOk(t, slices.Insert(slices.Clone(n), (i+j+k)%(len(n)+1), linkOf(a, b)), want)
			}
		}
	}
}

// Promise 75.
func TestNetCutTwo(t *testing.T) {
	for _, n := range someNets() {
		for i := range n {
			for j := range i {
				first, firstOk := impl.NetCut(n, i)
				first, thenOk := impl.NetCut(first, j)
				second, secondOk := impl.NetCut(n, j)
				second, lastOk := impl.NetCut(second, i-1)
				if !firstOk || !thenOk || !secondOk || !lastOk || !slices.Equal(first, second) {
					t.Fatalf("without links %d and %d, %v is %v or %v", i, j, n, first, second)
				}
				checkAnswers(t, first, wantAnswers(second))
				checkAnswers(t, second, wantAnswers(first))
			}
		}
	}
}

// apartNets is networks in which one does not come to every switch, and which switches are together.
func apartNets() map[string][]impl.Link {
	return map[string][]impl.Link{
		"1 2 3 4": nil,
		"12 34":   netOf("1.1 2.1", "3.3 4.3"),
		"13 24":   netOf("4.2 2.1", "1.3 3.2"),
		"14 23":   netOf("1.1 4.1", "2.1 3.1", "4.2 1.2", "3.3 2.3", "1.3 4.3", "2.2 3.2"),
		"123 4":   netOf("1.1 2.1", "2.2 3.1", "3.2 1.2"),
		"124 3":   netOf("1.1 2.1", "2.2 4.1", "4.2 1.2", "2.3 4.3"),
		"134 2":   netOf("1.2 3.1", "4.1 3.3"),
		"234 1":   netOf("2.1 3.1", "3.2 4.1"),
		"14 2 3":  netOf("4.3 1.1"),
		"23 1 4":  netOf("2.1 3.1", "2.2 3.3", "2.3 3.2"),
	}
}

// A switch that one does not come to, from either side.
func TestNetApart(t *testing.T) {
	for parts, n := range apartNets() {
		for _, p := range pairs() {
			from, to := p[0], p[1]
			together := slices.ContainsFunc(strings.Fields(parts), func(part string) bool {
				return strings.Contains(part, wayText([]int{from})) && strings.Contains(part, wayText([]int{to}))
			})
			if together {
				if far, way := impl.NetFar(n, from, to), impl.NetWay(n, from, to); far < 0 || len(way) != far+1 {
					t.Errorf("of %v, from %d to %d, the functions say %d and %v", n, from, to, far, way)
				}
				continue
			}
			checkNoWay(t, n, from, to)
		}
	}
}

// checkNoWay is what the functions say where one does not come from one switch to another, and of what is none.
func checkNoWay(t *testing.T, n []impl.Link, from int, to int) {
	t.Helper()
	far, next, way, port := impl.NetFar(n, from, to), impl.NetNext(n, from, to), impl.NetWay(n, from, to), impl.NetPort(n, from, to)
	if far != -1 || next != 0 || len(way) != 0 || port != 0 {
		t.Fatalf("of %v, from %d to %d, the functions say %d, %d, %v and %d", n, from, to, far, next, way, port)
	}
}

// A switch to itself, with and without links.
func TestNetItself(t *testing.T) {
	for _, n := range append(namedNets(), everyNet()...) {
		for sw := 1; sw <= 4; sw++ {
			far, next, way, port := impl.NetFar(n, sw, sw), impl.NetNext(n, sw, sw), impl.NetWay(n, sw, sw), impl.NetPort(n, sw, sw)
			if far != 0 || next != 0 || !slices.Equal(way, []int{sw}) || port != 0 {
				t.Fatalf("of %v, from %d to itself, the functions say %d, %d, %v and %d", n, sw, far, next, way, port)
			}
		}
	}
}

// Two links between the same two switches, at every two ports, in either order of the links and of their ends.
func TestNetTwoLinks(t *testing.T) {
	tried := 0
	for _, links := range everyNet() {
		if len(links) != 2 || !slices.Equal(endsOf(links[0]), endsOf(links[1])) {
			continue
		}
		tried++
		a, b := links[0].A, links[0].B
		wantA, wantB := leastPort(links, a), leastPort(links, b)
		for _, n := range linkOrders(links) {
			nextA, portA, nextB, portB := impl.NetNext(n, a, b), impl.NetPort(n, a, b), impl.NetNext(n, b, a), impl.NetPort(n, b, a)
			if nextA != wantA || portA != wantA || nextB != wantB || portB != wantB {
				t.Fatalf("of %v, NetNext and NetPort from %d to %d are %d and %d, and back %d and %d", n, a, b, nextA, portA, nextB, portB)
			}
		}
	}
	// Six pairs of switches, three pairs of ports at each, and two ways to join these.
	if tried != 6*3*3*2 {
		t.Errorf("%d networks", tried)
	}
}

// endsOf is the switches of a link, in ascending order.
func endsOf(l impl.Link) []int {
	return []int{min(l.A, l.B), max(l.A, l.B)}
}

// leastPort is the smallest port of a switch that has a link.
func leastPort(n []impl.Link, sw int) int {
	return 1 + slices.IndexFunc([]int{1, 2, 3}, func(port int) bool { return wantPeer(n, netSide{sw, port}) != netSide{} })
}

// Whichever links and ends are first, the answers are the same: also with two links on the way to a third switch, and with two ways of the same length.
func TestNetOrders(t *testing.T) {
	for _, links := range append(namedNets(), netOf("1.2 2.2", "2.3 1.1", "2.1 3.3", "3.1 4.2", "4.3 3.2")) {
		want := wantAnswers(links)
		for _, n := range linkOrders(links) {
			checkNetOk(t, n, true)
			checkAnswers(t, n, want)
		}
	}
}

// Every link of numbers around the bounds, alone.
func TestNetOkBounds(t *testing.T) {
	for a := -2; a <= 6; a++ {
		for aPort := -2; aPort <= 6; aPort++ {
			for b := -2; b <= 6; b++ {
				for bPort := -2; bPort <= 6; bPort++ {
					n := []impl.Link{{A: a, APort: aPort, B: b, BPort: bPort}}
					checkNetOk(t, n, wantNetOk(n))
					if wantNetOk(n) {
						checkAnswers(t, n, wantAnswers(n))
					} else {
						checkNoNet(t, n)
					}
				}
			}
		}
	}
}

// Every two links of numbers around the bounds.
func TestNetOkTwo(t *testing.T) {
	var l []impl.Link
	for i := range 6 * 5 * 6 * 5 {
		l = append(l, impl.Link{A: i / 150, APort: i / 30 % 5, B: i / 5 % 6, BPort: i % 5})
	}
	valid := 0
	for _, first := range l {
		for _, second := range l {
			n := []impl.Link{first, second}
			want := wantNetOk(n)
			checkNetOk(t, n, want)
			if want {
				valid++
			}
		}
	}
	if valid != 999*2*2*2 {
		t.Errorf("%d of them are networks", valid)
	}
}

// Numbers of links up to LinkMax and beyond.
func TestNetOkLengths(t *testing.T) {
	for _, six := range everyNet() {
		if len(six) != 6 {
			continue
		}
		for count := range 7 {
			checkNetOk(t, six[:count], true)
		}
		for _, l := range six {
			checkNetOk(t, append(slices.Clone(six), l), false)
			checkNetOk(t, append(slices.Clone(six), turned(l)), false)
		}
	}
	for _, n := range longNets() {
		checkNoNet(t, n)
	}
}

// longNets is more than LinkMax links.
func longNets() [][]impl.Link {
	six := fullNet()
	return [][]impl.Link{
		append(slices.Clone(six), six[0]),
		append(slices.Clone(six), turned(six[5])),
		append(slices.Clone(six), impl.Link{}),
		append(netOf("1.4 2.4"), six...),
		append(netOf("1.0 2.0"), six...),
		append(slices.Clone(six), netOf("5.1 6.1")...),
		slices.Repeat(six, 2),
		slices.Repeat(netOf("1.1 2.1"), 7),
		slices.Repeat(six, 1000),
		make([]impl.Link, 7),
		make([]impl.Link, 6000),
	}
}

// checkNoNet is what every function says of what is no network.
func checkNoNet(t *testing.T, n []impl.Link) {
	t.Helper()
	checkNetOk(t, n, false)
	for sw := 0; sw <= 5; sw++ {
		for port := 0; port <= 4; port++ {
			checkNoPeer(t, n, sw, port)
		}
		for to := 0; to <= 5; to++ {
			checkNoWay(t, n, sw, to)
		}
	}
	for _, at := range []int{-1, 0, 1, len(n) / 2, len(n) - 1, len(n)} {
		if cut, ok := impl.NetCut(n, at); ok || len(cut) != 0 {
			t.Fatalf("NetCut(%v, %d) is %v, %v", n, at, cut, ok)
		}
	}
}

// netPlaces is the first, a middle and the last place of a list.
func netPlaces(count int) []int {
	return slices.Compact([]int{0, count / 2, count - 1})
}

// netsWithFaults is networks with one field of one link replaced by a number that it cannot have.
func netsWithFaults() [][]impl.Link {
	switches, ports := append(ruleNumbers(1, impl.SwitchMax), 0), append(ruleNumbers(1, impl.PortMax), 0, impl.PortHost)
	var l [][]impl.Link
	for _, n := range [][]impl.Link{netOf("1.2 2.3"), netOf("1.1 2.1", "4.3 3.3", "2.3 3.1"), fullNet()} {
		for _, at := range netPlaces(len(n)) {
			with := func(change func(link *impl.Link)) {
				other := slices.Clone(n)
				change(&other[at])
				l = append(l, other)
			}
			for _, sw := range switches {
				with(func(link *impl.Link) { link.A = sw })
				with(func(link *impl.Link) { link.B = sw })
				with(func(link *impl.Link) { link.A, link.B = sw, sw })
			}
			for _, port := range ports {
				with(func(link *impl.Link) { link.APort = port })
				with(func(link *impl.Link) { link.BPort = port })
				with(func(link *impl.Link) { link.APort, link.BPort = port, port })
			}
			with(func(link *impl.Link) { *link = impl.Link{} })
		}
	}
	return l
}

// selfNets is networks with a link from a switch to itself, whose ports have no other link.
func selfNets() [][]impl.Link {
	others := netOf("1.1 2.1", "2.2 3.1", "3.2 1.2")
	var l [][]impl.Link
	for _, self := range netOf("4.1 4.2", "4.2 4.1", "4.1 4.3", "4.3 4.3", "4.1 4.1", "1.3 1.3", "2.3 2.3", "3.3 3.3") {
		for _, count := range []int{0, 2, 3} {
			for _, at := range netPlaces(count + 1) {
				l = append(l, slices.Insert(slices.Clone(others[:count]), at, self))
			}
		}
	}
	return l
}

// takenNets is networks with a further link at a port that has one already, each as either end.
func takenNets() [][]impl.Link {
	var l [][]impl.Link
	for _, n := range [][]impl.Link{netOf("1.1 2.1"), netOf("1.1 2.1", "2.2 3.1", "3.2 4.1"), netOf("2.1 1.1", "3.1 2.2", "4.1 3.2", "1.2 4.2", "3.3 1.3")} {
		free := slices.DeleteFunc(allSides(), func(side netSide) bool { return wantPeer(n, side) != netSide{} })
		for _, link := range n {
			for _, side := range sidesOf(link) {
				at := slices.IndexFunc(free, func(other netSide) bool { return other.sw != side.sw })
				for _, place := range netPlaces(len(n) + 1) {
					l = append(l,
						slices.Insert(slices.Clone(n), place, linkOf(side, free[at])),
						slices.Insert(slices.Clone(n), place, linkOf(free[at], side)))
				}
			}
			l = append(l, append(slices.Clone(n), link), append(slices.Clone(n), turned(link)))
		}
	}
	return l
}

// noNets is what is no network.
func noNets() [][]impl.Link {
	return slices.Concat(netsWithFaults(), selfNets(), takenNets(), longNets())
}

func TestNetRejects(t *testing.T) {
	for _, n := range noNets() {
		if wantNetOk(n) {
			t.Fatalf("%v is a network", n)
		}
		checkNoNet(t, n)
	}
}

// What is no network and no switch, port or index either.
func TestNetRejectsAll(t *testing.T) {
	for _, n := range takenNets() {
		for _, no := range ruleNumbers(1, impl.SwitchMax) {
			checkNoPeer(t, n, no, no)
			checkNoWay(t, n, no, no)
			checkNoWay(t, n, 1, no)
			checkNoWay(t, n, no, 1)
			if cut, ok := impl.NetCut(n, no); ok || len(cut) != 0 {
				t.Fatalf("NetCut(%v, %d) is %v, %v", n, no, cut, ok)
			}
		}
	}
}

// No such switch, in either place and in both, also the same one.
func TestNetNoSwitch(t *testing.T) {
	none := append(ruleNumbers(1, impl.SwitchMax), 0, impl.SwitchMax+1, math.MinInt, math.MaxInt)
	for i, n := range someNets() {
		for j, no := range none {
			for sw := 1; sw <= 4; sw++ {
				checkNoWay(t, n, no, sw)
				checkNoWay(t, n, sw, no)
			}
			checkNoWay(t, n, no, no)
			checkNoWay(t, n, no, none[(i+j)%len(none)])
		}
	}
	for _, n := range namedNets() {
		for _, from := range none {
			for _, to := range none {
				checkNoWay(t, n, from, to)
			}
		}
	}
}

// ownNet is a copy of links, with space behind it that is filled too.
func ownNet(n []impl.Link) []impl.Link {
	own := append(make([]impl.Link, 0, len(n)+4), n...)
	for i := range 4 {
		own = append(own, impl.Link{A: -7 - i, APort: -7, B: -7, BPort: -7})
	}
	return own[:len(n)]
}

// slicesMeet is whether two slices, up to their capacity, have memory in common.
func slicesMeet[T any](a []T, b []T) bool {
	if cap(a) == 0 || cap(b) == 0 {
		return false
	}
	var value T
	firstA, firstB := uintptr(unsafe.Pointer(unsafe.SliceData(a))), uintptr(unsafe.Pointer(unsafe.SliceData(b)))
	return firstA < firstB+uintptr(cap(b))*unsafe.Sizeof(value) && firstB < firstA+uintptr(cap(a))*unsafe.Sizeof(value)
}

// fill replaces all of a slice, up to its capacity.
func fill[T any](l []T, value T) {
	for i := range l[:cap(l)] {
		l[:cap(l)][i] = value
	}
}

// The arguments are as they were, also behind the end of the slice, and no result of NetCut shares memory with them or with another result.
func TestNetCutOwnMemory(t *testing.T) {
	for _, kept := range someNets() {
		n := ownNet(kept)
		before := slices.Clone(n[:cap(n)])
		results := [][]impl.Link{n}
		for at := -1; at <= len(n); at++ {
			for range 2 {
				cut, _ := impl.NetCut(n, at)
				for _, other := range results {
					if slicesMeet(cut, other) {
						t.Fatalf("NetCut(%v, %d) is %v, and shares memory with %v", n, at, cut, other)
					}
				}
				results = append(results, cut)
			}
		}
		for _, cut := range results[1:] {
			fill(cut, impl.Link{A: 9, APort: 9, B: 9, BPort: 9})
		}
		if !slices.Equal(n[:cap(n)], before) {
			t.Fatalf("%v has become %v", before, n[:cap(n)])
		}
		for at := range n {
			checkCut(t, n, at)
		}
	}
}

// No result of NetWay shares memory with another one, and the arguments of all functions are as they were.
func TestNetWayOwnMemory(t *testing.T) {
	for _, kept := range someNets() {
		n := ownNet(kept)
		before := slices.Clone(n[:cap(n)])
		var results [][]int
		for _, p := range append(pairs(), pairs()...) {
			way := impl.NetWay(n, p[0], p[1])
			for _, other := range results {
				if slicesMeet(way, other) {
					t.Fatalf("NetWay(%v, %d, %d) is %v, and shares memory with %v", n, p[0], p[1], way, other)
				}
			}
			results = append(results, way)
		}
		for _, way := range results {
			fill(way, 9)
		}
		impl.NetOk(n)
		checkAnswers(t, n, wantAnswers(kept))
		if !slices.Equal(n[:cap(n)], before) {
			t.Fatalf("%v has become %v", before, n[:cap(n)])
		}
	}
}

// What is no network is as it was too.
func TestNetRejectsKept(t *testing.T) {
	for _, kept := range noNets() {
		n := ownNet(kept)
		before := slices.Clone(n[:cap(n)])
		checkNoNet(t, n)
		if !slices.Equal(n[:cap(n)], before) {
			t.Fatalf("%v has become %v", before, n[:cap(n)])
		}
	}
}

// The same call many times in a row gives the same answer, also with other calls in between.
func TestNetAgain(t *testing.T) {
	no := takenNets()[0]
	for _, n := range namedNets() {
		want := wantAnswers(n)
		for range 200 {
			checkAnswers(t, n, want)
		}
	}
	nets := namedNets()
	for i := range 2000 {
		n := nets[i%len(nets)]
		checkAnswers(t, n, wantAnswers(n))
		checkNetOk(t, no, false)
		checkNetOk(t, n, true)
		checkNoWay(t, no, 1, 2)
		if len(n) > 0 {
			checkCut(t, n, i%len(n))
		}
	}
}
