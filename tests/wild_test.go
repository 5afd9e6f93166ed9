package tests

import (
	"fmt"
	"slices"
	"testing"

	"loop.example/crossbuck/impl"
)

// headSigns is the six bits of a valid header, as the document places them in a pattern.
func headSigns(h impl.Head) string {
	return fmt.Sprintf("%02b%02b%02b", h.Src, h.Dst, h.Tag)
}

// allWilds is the 729 patterns.
func allWilds() []string {
	l := []string{""}
	for range 6 {
		var longer []string
		for _, w := range l {
			longer = append(longer, w+"0", w+"1", w+"x")
		}
		l = longer
	}
	return l
}

// noWilds is texts that are no patterns: too short, too long, or with another byte at each place of patterns of several kinds.
func noWilds() []string {
	l := []string{
		"", "x", "01", "0101", "xxxxx", "00000", "01x01", "xxxxxxx", "0000000", "01x01x0", "xxxxxxxxxxxx", "xxxxxx\n", "\nxxxxxx", " xxxxxx", "xxxxxx ", "xxxxxx\x00",
		"222222", "XXXXXX", "      ", "\x00\x00\x00\x00\x00\x00", "\xff\xff\xff\xff\xff\xff", "******", "......", "1.2.3.", "xxx\u00e9x", "xxxx\u00e9x", "\u00d7\u00d7\u00d7", "1.2.3",
	}
	for _, w := range []string{"xxxxxx", "000000", "111111", "01xx10", "x01x01"} {
		for i := range 6 {
			for _, other := range []string{"2", "X", " ", "\x80", "\xff", "\x00", "/", "w", "y", "-", "b", "\xb0", "\xb1", "\xf8"} {
				l = append(l, w[:i]+other+w[i+1:])
			}
		}
	}
	return l
}

// wildMatches is whether a header matches a pattern, by the document's definition.
func wildMatches(w string, signs string) bool {
	for i := range 6 {
		if w[i] != 'x' && w[i] != signs[i] {
			return false
		}
	}
	return true
}

// wildSet is the headers that match a pattern, one bit for each number.
func wildSet(w string) uint64 {
	var set uint64
	for n, h := range validHeads() {
		if wildMatches(w, headSigns(h)) {
			set |= 1 << n
		}
	}
	return set
}

// wildSets is wildSet of each of allWilds.
func wildSets() map[string]uint64 {
	sets := map[string]uint64{}
	for _, w := range allWilds() {
		sets[w] = wildSet(w)
	}
	return sets
}

// wantLess is the list that the document describes for WildLess.
func wantLess(a string, b string) []string {
	for i := range 6 {
		if a[i] != b[i] && a[i] != 'x' && b[i] != 'x' {
			return []string{a}
		}
	}
	var l []string
	for i := range 6 {
		if a[i] != 'x' || b[i] == 'x' {
			continue
		}
		w := []byte(a)
		for j := range i {
			if a[j] == 'x' && b[j] != 'x' {
				w[j] = b[j]
			}
		}
		w[i] = '0' + '1' - b[i]
		l = append(l, string(w))
	}
	return l
}

func TestWildLimits(t *testing.T) {
	if impl.WildLen != 6 {
		t.Errorf("WildLen is %d", impl.WildLen)
	}
	if l := allWilds(); len(l) != 729 {
		t.Errorf("%d patterns", len(l))
	}
}

// Promise 7.
func TestWildHasEach(t *testing.T) {
	for _, w := range allWilds() {
		for _, h := range validHeads() {
			want := wildMatches(w, headSigns(h))
			if impl.WildHas(w, h) != want {
				t.Fatalf("WildHas(%q, %v) is %v", w, h, !want)
			}
			if wildMatches(w, impl.WildOf(h)) != want {
				t.Fatalf("WildHas(%q, %v) is %v, but WildOf is %q", w, h, want, impl.WildOf(h))
			}
		}
	}
}

// Promise 7, for what is no pattern or no header.
func TestWildHasRejects(t *testing.T) {
	for _, w := range noWilds() {
		for _, h := range validHeads() {
			if impl.WildHas(w, h) {
				t.Errorf("WildHas(%q, %v) is true", w, h)
			}
		}
		if h := (impl.Head{Src: 4}); impl.WildHas(w, h) {
			t.Errorf("WildHas(%q, %v) is true", w, h)
		}
	}
	for _, h := range invalidHeads() {
		for _, w := range []string{"xxxxxx", "000000", "111111", "01xxxx", "xx01xx", "xxxx01", "0xxxxx", "xxxxx1"} {
			if impl.WildHas(w, h) {
				t.Errorf("WildHas(%q, %v) is true", w, h)
			}
		}
	}
}

// Promise 8.
func TestWildOfOne(t *testing.T) {
	seen := map[string]impl.Head{}
	for _, h := range validHeads() {
		w := impl.WildOf(h)
		if w != headSigns(h) || !impl.WildOk(w) {
			t.Errorf("WildOf(%v) is %q", h, w)
		}
		if g, ok := seen[w]; ok {
			t.Errorf("WildOf of %v and %v is %q", g, h, w)
		}
		seen[w] = h
		for _, g := range validHeads() {
			if impl.WildHas(w, g) != (g == h) {
				t.Errorf("WildHas(%q, %v) is %v", w, g, g != h)
			}
		}
	}
	if w := impl.WildOf(impl.Head{Src: 1, Dst: 2, Tag: 3}); w != "011011" {
		t.Errorf("WildOf(1.2.3) is %q", w)
	}
	for _, h := range invalidHeads() {
		if w := impl.WildOf(h); w != "" {
			t.Errorf("WildOf(%v) is %q", h, w)
		}
	}
}

// Promise 9.
func TestWildManyCounts(t *testing.T) {
	for _, w := range allWilds() {
		want := 0
		for _, h := range validHeads() {
			if impl.WildHas(w, h) {
				want++
			}
		}
		if n := impl.WildMany(w); n != want {
			t.Errorf("WildMany(%q) is %d, not %d", w, n, want)
		}
	}
	for w, want := range map[string]int{"xxxxxx": 64, "0xxxxx": 32, "01xxx0": 8, "xxx1xx": 32, "01x01x": 4, "010101": 1} {
		if n := impl.WildMany(w); n != want {
			t.Errorf("WildMany(%q) is %d, not %d", w, n, want)
		}
	}
	for _, w := range noWilds() {
		if n := impl.WildMany(w); n != 0 {
			t.Errorf("WildMany(%q) is %d", w, n)
		}
	}
}

// Promises 10 and 11, for every pair of patterns.
func TestWildAndPairs(t *testing.T) {
	wilds, sets := allWilds(), wildSets()
	for _, a := range wilds {
		if w, ok := impl.WildAnd(a, a); !ok || w != a {
			t.Fatalf("WildAnd(%q, %q) is %q, %v", a, a, w, ok)
		}
		for _, b := range wilds {
			w, ok := impl.WildAnd(a, b)
			if ok != (sets[a]&sets[b] != 0) {
				t.Fatalf("WildAnd(%q, %q) is %q, %v", a, b, w, ok)
			}
			set, isWild := sets[w]
			if isWild != ok || set != sets[a]&sets[b] || !ok && w != "" {
				t.Fatalf("WildAnd(%q, %q) is %q, %v", a, b, w, ok)
			}
			if other, otherOk := impl.WildAnd(b, a); other != w || otherOk != ok {
				t.Fatalf("WildAnd(%q, %q) is %q, but %q the other way", a, b, w, other)
			}
		}
	}
}

// Promise 11, for WildHas itself.
func TestWildAndHas(t *testing.T) {
	wilds := allWilds()
	for i := 0; i < len(wilds); i += 5 {
		for j := 0; j < len(wilds); j += 7 {
			a, b := wilds[i], wilds[j]
			w, _ := impl.WildAnd(a, b)
			for _, h := range validHeads() {
				want := impl.WildHas(a, h) && impl.WildHas(b, h)
				if impl.WildHas(w, h) != want {
					t.Fatalf("WildHas(%q, %v) is %v, of %q and %q", w, h, !want, a, b)
				}
			}
		}
	}
}

func TestWildAndCases(t *testing.T) {
	for _, c := range []struct{ a, b, want string }{
		{"0xxxxx", "x1xxxx", "01xxxx"},
		{"01xxxx", "xx10x1", "0110x1"},
		{"xxxxxx", "xxxxxx", "xxxxxx"},
		{"xxxxxx", "011011", "011011"},
		{"0xxxxx", "1xxxxx", ""},
		{"xxxxx0", "xxxxx1", ""},
		{"xx01xx", "xx1xxx", ""},
		{"000000", "111111", ""},
		{"000000", "000001", ""},
	} {
		if w, ok := impl.WildAnd(c.a, c.b); w != c.want || ok != (c.want != "") {
			t.Errorf("WildAnd(%q, %q) is %q, %v", c.a, c.b, w, ok)
		}
	}
}

// Promise 10, for what is no pattern, in either place and in both.
func TestWildAndRejects(t *testing.T) {
	for _, no := range noWilds() {
		pairs := [][2]string{{no, no}, {no, ""}, {"2xxxxx", no}}
		for _, w := range []string{"xxxxxx", "000000", "111111", "01xx10", "x01x01"} {
			pairs = append(pairs, [2]string{no, w}, [2]string{w, no})
		}
		for _, p := range pairs {
			if w, ok := impl.WildAnd(p[0], p[1]); ok || w != "" {
				t.Errorf("WildAnd(%q, %q) is %q, %v", p[0], p[1], w, ok)
			}
		}
	}
}

// Promise 12, for every three patterns: WildAnd of every pair is put in a table first, with one more number for a failure, which nothing leads out of.
func TestWildAndAssociative(t *testing.T) {
	wilds := allWilds()
	number := map[string]int16{}
	for i, w := range wilds {
		number[w] = int16(i)
	}
	const none = 729
	var table [none + 1][none + 1]int16
	for i := range none + 1 {
		for j := range none + 1 {
			table[i][j] = none
			if i == none || j == none {
				continue
			}
			if w, ok := impl.WildAnd(wilds[i], wilds[j]); ok {
				n, isWild := number[w]
				if !isWild {
					t.Fatalf("WildAnd(%q, %q) is %q", wilds[i], wilds[j], w)
				}
				table[i][j] = n
			}
		}
	}
	for i := range none {
		for j := range none {
			for k := range none {
				if table[table[i][j]][k] != table[i][table[j][k]] {
					t.Fatalf("WildAnd of %q, %q and %q is not the same in both ways", wilds[i], wilds[j], wilds[k])
				}
			}
		}
	}
}

// Promise 13, for every pair of patterns.
func TestWildInPairs(t *testing.T) {
	wilds, sets := allWilds(), wildSets()
	for _, a := range wilds {
		for _, b := range wilds {
			in := impl.WildIn(a, b)
			if in != (sets[a]&^sets[b] == 0) {
				t.Fatalf("WildIn(%q, %q) is %v", a, b, in)
			}
			if in && impl.WildIn(b, a) != (a == b) {
				t.Fatalf("WildIn(%q, %q) is true in both directions", a, b)
			}
		}
	}
}

// Promise 13, for what is no pattern, in either place and in both.
func TestWildInRejects(t *testing.T) {
	for _, no := range noWilds() {
		if impl.WildIn(no, no) || impl.WildIn(no, "") || impl.WildIn("", no) {
			t.Errorf("WildIn of %q and no pattern is true", no)
		}
		for _, w := range []string{"xxxxxx", "000000", "111111", "01xx10", "x01x01"} {
			if impl.WildIn(no, w) || impl.WildIn(w, no) {
				t.Errorf("WildIn of %q and %q is true", no, w)
			}
		}
	}
}

// Promises 14 and 15, for every pair of patterns.
func TestWildLessPairs(t *testing.T) {
	wilds, sets := allWilds(), wildSets()
	for _, a := range wilds {
		for _, b := range wilds {
			less := impl.WildLess(a, b)
			var all uint64
			many := 0
			for _, w := range less {
				set, isWild := sets[w]
				if !isWild || all&set != 0 {
					t.Fatalf("WildLess(%q, %q) is %q: %q is no pattern, or not disjoint", a, b, less, w)
				}
				all |= set
				many += impl.WildMany(w)
			}
			if all != sets[a]&^sets[b] {
				t.Fatalf("WildLess(%q, %q) is %q", a, b, less)
			}
			both, _ := impl.WildAnd(a, b)
			if many+impl.WildMany(both) != impl.WildMany(a) {
				t.Fatalf("WildMany of WildLess(%q, %q) is %d, and of WildAnd %d", a, b, many, impl.WildMany(both))
			}
		}
	}
}

// The order and the form of the patterns of WildLess, for every pair of patterns.
func TestWildLessOrder(t *testing.T) {
	wilds := allWilds()
	for _, a := range wilds {
		for _, b := range wilds {
			if less := impl.WildLess(a, b); !slices.Equal(less, wantLess(a, b)) {
				t.Fatalf("WildLess(%q, %q) is %q, not %q", a, b, less, wantLess(a, b))
			}
		}
	}
}

func TestWildLessCases(t *testing.T) {
	for _, c := range []struct {
		a, b string
		want []string
	}{
		{"0xxxxx", "01x1xx", []string{"00xxxx", "01x0xx"}},
		{"xxxxxx", "011011", []string{"1xxxxx", "00xxxx", "010xxx", "0111xx", "01100x", "011010"}},
		{"xxxxxx", "xxxxx1", []string{"xxxxx0"}},
		{"x1x0xx", "0xxxx1", []string{"11x0xx", "01x0x0"}},
		{"xxxxxx", "1xx0xx", []string{"0xxxxx", "1xx1xx"}},
		{"0xxxxx", "1xxxxx", []string{"0xxxxx"}},
		{"0xxxxx", "100000", []string{"0xxxxx"}},
		{"xxxxx0", "0000x1", []string{"xxxxx0"}},
		{"01x01x", "01x01x", nil},
		{"xxxxxx", "xxxxxx", nil},
		{"011011", "011011", nil},
		{"01x01x", "0xx0xx", nil},
		{"01x01x", "xxxxxx", nil},
		{"000000", "xxxxx0", nil},
	} {
		if less := impl.WildLess(c.a, c.b); !slices.Equal(less, c.want) {
			t.Errorf("WildLess(%q, %q) is %q, not %q", c.a, c.b, less, c.want)
		}
	}
}

// A pattern less itself, and less each pattern that has all its headers, is empty.
func TestWildLessEmpty(t *testing.T) {
	wilds := allWilds()
	for _, a := range wilds {
		for _, b := range wilds {
			less := impl.WildLess(a, b)
			if (len(less) == 0) != impl.WildIn(a, b) {
				t.Fatalf("WildLess(%q, %q) is %q", a, b, less)
			}
		}
	}
}

// What is no pattern, in either place and in both: nothing, even where the first is a pattern that meets nothing.
func TestWildLessRejects(t *testing.T) {
	for _, no := range noWilds() {
		pairs := [][2]string{{no, no}, {no, ""}, {"", no}}
		for _, w := range []string{"xxxxxx", "000000", "111111", "01xx10", "x01x01"} {
			pairs = append(pairs, [2]string{no, w}, [2]string{w, no})
		}
		for _, p := range pairs {
			if less := impl.WildLess(p[0], p[1]); len(less) != 0 {
				t.Errorf("WildLess(%q, %q) is %q", p[0], p[1], less)
			}
		}
	}
}

func TestWildLessOwnMemory(t *testing.T) {
	first := impl.WildLess("xxxxxx", "011011")
	second := impl.WildLess("xxxxxx", "011011")
	want := slices.Clone(second)
	for i := range first[:cap(first)] {
		first[:cap(first)][i] = "changed"
	}
	if !slices.Equal(second, want) || !slices.Equal(impl.WildLess("xxxxxx", "011011"), want) {
		t.Errorf("WildLess shares memory: %q", second)
	}
}

// Promise 16, for every pattern and every byte that one replaced or added makes of it.
func TestWildOkOneByte(t *testing.T) {
	for _, w := range allWilds() {
		if !impl.WildOk(w) {
			t.Fatalf("WildOk(%q) is false", w)
		}
		for i := 0; i <= 6; i++ {
			for c := range 256 {
				other := string([]byte{byte(c)})
				if longer := w[:i] + other + w[i:]; impl.WildOk(longer) {
					t.Fatalf("WildOk(%q) is true", longer)
				}
				if i == 6 {
					continue
				}
				changed := w[:i] + other + w[i+1:]
				if impl.WildOk(changed) != (c == '0' || c == '1' || c == 'x') {
					t.Fatalf("WildOk(%q) is %v", changed, impl.WildOk(changed))
				}
			}
			if i < 6 && impl.WildOk(w[:i]+w[i+1:]) {
				t.Fatalf("WildOk(%q) is true", w[:i]+w[i+1:])
			}
		}
	}
	for _, w := range noWilds() {
		if impl.WildOk(w) {
			t.Fatalf("WildOk(%q) is true", w)
		}
	}
}
