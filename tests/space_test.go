package tests

import (
	"math/rand/v2"
	"slices"
	"strings"
	"testing"

	"loop.example/crossbuck/impl"
)

const allHeads = ^uint64(0)

// spaceSet is the headers of a header space, one bit for each number.
func spaceSet(s []string) uint64 {
	var set uint64
	for _, w := range s {
		set |= wildSet(w)
	}
	return set
}

// setCount is how many headers a set has.
func setCount(set uint64) int {
	n := 0
	for i := range 64 {
		n += int(set >> i & 1)
	}
	return n
}

// headList is the patterns without "x" of a set, by ascending number.
func headList(set uint64) []string {
	var l []string
	for n, h := range validHeads() {
		if set>>n&1 == 1 {
			l = append(l, headSigns(h))
		}
	}
	return l
}

// wantList is the list that the document describes for a set of texts of equal length, by the positions from the first on.
func wantList(set []string) []string {
	if len(set) == 0 {
		return nil
	}
	if set[0] == "" {
		return []string{""}
	}
	var zero, one []string
	for _, signs := range set {
		if signs[0] == '0' {
			zero = append(zero, signs[1:])
		} else {
			one = append(one, signs[1:])
		}
	}
	var l []string
	if slices.Equal(zero, one) {
		for _, w := range wantList(zero) {
			l = append(l, "x"+w)
		}
		return l
	}
	for _, w := range wantList(zero) {
		l = append(l, "0"+w)
	}
	for _, w := range wantList(one) {
		l = append(l, "1"+w)
	}
	return l
}

// wantSpace is the canonical list of a set.
func wantSpace(set uint64) []string {
	return wantList(headList(set))
}

// longestSet is a set whose canonical list has 32 patterns, the most there are: an even number of ones.
func longestSet() uint64 {
	var set uint64
	for n := range 64 {
		if setCount(uint64(n))%2 == 0 {
			set |= 1 << n
		}
	}
	return set
}

// drawnSpaces is header spaces of many lengths drawn by a fixed seed: patterns with many "x" and with few, some of them twice.
func drawnSpaces(count int, seed uint64) [][]string {
	draw := rand.New(rand.NewPCG(seed, 3))
	var l [][]string
	for i := range count {
		length := []int{1, 2, 3, 5, 8, 13, 30, 64}[i%8]
		free := 1 + draw.IntN(9)
		var s []string
		for range length {
			w := make([]byte, 6)
			for j := range w {
				w[j] = '0' + byte(draw.IntN(2))
				if draw.IntN(10) < free {
					w[j] = 'x'
				}
			}
			s = append(s, string(w))
		}
		if length > 3 {
			s[length-1] = s[draw.IntN(length-1)]
		}
		l = append(l, s)
	}
	return l
}

// namedSpaces is the header spaces that the document's definitions single out, several of them the same set in another way.
func namedSpaces() [][]string {
	return [][]string{
		nil,
		{},
		{"xxxxxx"},
		{"0xxxxx", "1xxxxx"},
		{"1xxxxx", "0xxxxx"},
		{"xxxxx1", "xxxxx0"},
		{"xxxxxx", "xxxxxx", "011011"},
		headList(allHeads),
		{"011011"},
		{"011011", "011011"},
		{"000000"},
		{"111111"},
		{"0xxxxx", "x0xxxx"},
		{"x0xxxx", "0xxxxx"},
		{"00xxxx", "01xxxx", "10xxxx"},
		{"01xxxx", "00xxxx", "11xxx0"},
		{"xxx01x", "xxx10x"},
		{"x1x0xx", "0xxxx1", "xx11xx"},
		headList(longestSet()),
		wantSpace(longestSet()),
		headList(^longestSet()),
		headList(allHeads &^ 1),
		headList(allHeads >> 1),
		slices.Repeat([]string{"0x1x0x"}, 64),
	}
}

// someSpaces is named and drawn header spaces.
func someSpaces() [][]string {
	return append(namedSpaces(), drawnSpaces(24, 1)...)
}

// cubeSets is every set that depends on three of the positions alone.
func cubeSets(positions [3]int) []uint64 {
	var l []uint64
	for table := range 256 {
		var set uint64
		for n, h := range validHeads() {
			signs := headSigns(h)
			row := 0
			for _, p := range positions {
				row = row*2 + int(signs[p]-'0')
			}
			if table>>row&1 == 1 {
				set |= 1 << n
			}
		}
		l = append(l, set)
	}
	return l
}

// noSpaces is lists that are no header spaces: one string that is no pattern at the first, a middle or the last place, such strings alone, and too many patterns.
func noSpaces() [][]string {
	l := [][]string{
		slices.Repeat([]string{"xxxxxx"}, 65),
		slices.Repeat([]string{"011011"}, 65),
		append(headList(allHeads), "xxxxxx"),
		append(headList(allHeads), "000000"),
		append(headList(allHeads), ""),
		append([]string{"xxxxx"}, headList(allHeads)...),
		slices.Repeat([]string{"0xxxxx", "x0xxxx"}, 64),
		allWilds(),
		slices.Repeat([]string{""}, 64),
		{"", ""},
	}
	for _, no := range noWilds() {
		l = append(l,
			[]string{no},
			[]string{no, "0xxxxx", "x0xxxx"},
			[]string{"0xxxxx", no, "x0xxxx"},
			[]string{"0xxxxx", "x0xxxx", no})
	}
	for _, no := range []string{"", "xxxxx", "xxxxxxx", "xx2xxx"} {
		for i := range 64 {
			s := headList(allHeads)
			s[i] = no
			l = append(l, s)
		}
	}
	return l
}

func TestSpaceLimits(t *testing.T) {
	if impl.SpaceMax != 64 {
		t.Errorf("SpaceMax is %d", impl.SpaceMax)
	}
	if l := wantSpace(longestSet()); len(l) != 32 {
		t.Errorf("%d patterns in the longest list", len(l))
	}
	for _, s := range someSpaces() {
		if len(s) > 64 {
			t.Errorf("%d patterns in a space", len(s))
		}
	}
}

// Promise 17.
func TestSpaceHasEach(t *testing.T) {
	spaces := someSpaces()
	for _, w := range allWilds() {
		spaces = append(spaces, []string{w}, []string{w, "01x01x"})
	}
	for _, s := range spaces {
		set := spaceSet(s)
		for n, h := range validHeads() {
			some := false
			for _, w := range s {
				some = some || impl.WildHas(w, h)
			}
			if has := impl.SpaceHas(s, h); has != some || has != (set>>n&1 == 1) {
				t.Fatalf("SpaceHas(%q, %v) is %v", s, h, has)
			}
		}
	}
}

// Promise 17, for what is no header space or no header.
func TestSpaceHasRejects(t *testing.T) {
	for _, s := range noSpaces() {
		for _, h := range []impl.Head{{}, {Src: 1, Dst: 2, Tag: 3}, {Src: 3, Dst: 3, Tag: 3}, {Src: 4}, {Tag: -1}} {
			if impl.SpaceHas(s, h) {
				t.Fatalf("SpaceHas(%q, %v) is true", s, h)
			}
		}
	}
	for _, h := range invalidHeads() {
		for _, s := range [][]string{nil, {"xxxxxx"}, {"0xxxxx", "1xxxxx"}, {"000000"}, {"0xxxxx", "xxxx01", "xx01xx"}} {
			if impl.SpaceHas(s, h) {
				t.Fatalf("SpaceHas(%q, %v) is true", s, h)
			}
		}
	}
}

// Promise 18.
func TestSpaceTidySet(t *testing.T) {
	for _, s := range someSpaces() {
		tidy := impl.SpaceTidy(s)
		if !impl.SpaceOk(tidy) {
			t.Fatalf("SpaceTidy(%q) is %q", s, tidy)
		}
		for _, h := range validHeads() {
			matched := 0
			for _, w := range tidy {
				if impl.WildHas(w, h) {
					matched++
				}
			}
			if matched > 1 || (matched == 1) != impl.SpaceHas(s, h) {
				t.Fatalf("SpaceTidy(%q) is %q, of which %d patterns match %v", s, tidy, matched, h)
			}
		}
		if again := impl.SpaceTidy(tidy); !slices.Equal(again, tidy) {
			t.Fatalf("SpaceTidy(%q) is %q", tidy, again)
		}
	}
}

// The canonical list, for every pattern alone, every set of three positions, and sets drawn header by header.
func TestSpaceTidyList(t *testing.T) {
	for _, w := range allWilds() {
		if tidy := impl.SpaceTidy([]string{w}); !slices.Equal(tidy, []string{w}) {
			t.Fatalf("SpaceTidy of %q alone is %q", w, tidy)
		}
	}
	sets := []uint64{0, allHeads, longestSet(), ^longestSet()}
	for a := range 6 {
		for b := range a {
			for c := range b {
				sets = append(sets, cubeSets([3]int{c, b, a})...)
			}
		}
	}
	draw := rand.New(rand.NewPCG(18, 3))
	for range 1000 {
		sets = append(sets, draw.Uint64(), draw.Uint64()&draw.Uint64()&draw.Uint64(), draw.Uint64()|draw.Uint64()|draw.Uint64())
	}
	for _, set := range sets {
		want := wantSpace(set)
		heads := headList(set)
		if tidy := impl.SpaceTidy(heads); !slices.Equal(tidy, want) {
			t.Fatalf("SpaceTidy(%q) is %q, not %q", heads, tidy, want)
		}
		slices.Reverse(heads)
		if tidy := impl.SpaceTidy(heads); !slices.Equal(tidy, want) {
			t.Fatalf("SpaceTidy(%q) is %q, not %q", heads, tidy, want)
		}
		if tidy := impl.SpaceTidy(want); !slices.Equal(tidy, want) {
			t.Fatalf("SpaceTidy(%q) is %q", want, tidy)
		}
	}
	for _, s := range someSpaces() {
		if tidy, want := impl.SpaceTidy(s), wantSpace(spaceSet(s)); !slices.Equal(tidy, want) {
			t.Fatalf("SpaceTidy(%q) is %q, not %q", s, tidy, want)
		}
	}
}

func TestSpaceTidyCases(t *testing.T) {
	for _, c := range []struct{ s, want []string }{
		{nil, nil},
		{[]string{}, nil},
		{[]string{"xxxxxx"}, []string{"xxxxxx"}},
		{headList(allHeads), []string{"xxxxxx"}},
		{[]string{"0xxxxx", "x0xxxx", "11xxxx"}, []string{"xxxxxx"}},
		{[]string{"011011"}, []string{"011011"}},
		{[]string{"011011", "011011"}, []string{"011011"}},
		{[]string{"01x011", "011011"}, []string{"01x011"}},
		// The parts of position 0 are equal, so that it is divided at position 1 alone.
		{[]string{"11xxxx", "01xxxx", "x0xx1x"}, []string{"x0xx1x", "x1xxxx"}},
		// They are not, although position 1 has no parts that are.
		{[]string{"x1xxxx", "10xx1x"}, []string{"01xxxx", "10xx1x", "11xxxx"}},
		{[]string{"0xxxxx", "x0xxxx"}, []string{"0xxxxx", "10xxxx"}},
		{[]string{"x0xxxx", "0xxxxx"}, []string{"0xxxxx", "10xxxx"}},
		{[]string{"10xxxx", "00xxxx", "01xxxx", "0x1xxx"}, []string{"0xxxxx", "10xxxx"}},
		{[]string{"01xxxx", "00xxxx", "11xxx0"}, []string{"0xxxxx", "11xxx0"}},
		{[]string{"xxxxx1", "1xxxxx"}, []string{"0xxxx1", "1xxxxx"}},
		{[]string{"111111", "000000"}, []string{"000000", "111111"}},
		{[]string{"xxxx11", "xxxx00"}, []string{"xxxx00", "xxxx11"}},
		{[]string{"000001", "000000", "000011"}, []string{"00000x", "000011"}},
		{[]string{"000011", "000001"}, []string{"0000x1"}},
	} {
		if tidy := impl.SpaceTidy(c.s); !slices.Equal(tidy, c.want) {
			t.Errorf("SpaceTidy(%q) is %q, not %q", c.s, tidy, c.want)
		}
	}
}

func TestSpaceTidyOrder(t *testing.T) {
	longest := impl.SpaceTidy(headList(longestSet()))
	if len(longest) != 32 || longest[0] != "000000" || longest[31] != "111111" {
		t.Errorf("the longest list is %q", longest)
	}
	for _, s := range someSpaces() {
		tidy := impl.SpaceTidy(s)
		// "0" is less than "1" as a byte too, and two patterns of a list first differ by these.
		if len(tidy) > 32 || !slices.IsSorted(tidy) {
			t.Errorf("SpaceTidy(%q) is %q", s, tidy)
		}
	}
}

// One set in many ways: the patterns in another order, doubled, with parts of them beside them, or header by header.
func TestSpaceTidyOneList(t *testing.T) {
	draw := rand.New(rand.NewPCG(19, 3))
	for _, s := range append(namedSpaces(), drawnSpaces(200, 19)...) {
		want := impl.SpaceTidy(s)
		reversed := slices.Clone(s)
		slices.Reverse(reversed)
		shuffled := slices.Clone(s)
		draw.Shuffle(len(shuffled), func(i, j int) { shuffled[i], shuffled[j] = shuffled[j], shuffled[i] })
		ways := [][]string{reversed, shuffled, headList(spaceSet(s))}
		if len(s) <= 32 {
			ways = append(ways, append(slices.Clone(s), reversed...))
			parts := slices.Clone(s)
			for _, w := range s {
				parts = append(parts, strings.ReplaceAll(w, "x", "1"))
			}
			ways = append(ways, parts)
		}
		for _, way := range ways {
			if tidy := impl.SpaceTidy(way); !slices.Equal(tidy, want) || !impl.SpaceSame(way, s) {
				t.Fatalf("SpaceTidy(%q) is %q, but %q of %q", way, tidy, want, s)
			}
		}
	}
}

// Promise 19.
func TestSpaceSameTidy(t *testing.T) {
	spaces := append(someSpaces(), drawnSpaces(24, 2)...)
	for _, w := range []string{"01xxxx", "0xxxxx", "00xxxx"} {
		spaces = append(spaces, []string{w})
	}
	// Sets that differ by one header alone.
	for i := range 64 {
		spaces = append(spaces, wantSpace(allHeads&^(1<<i)))
	}
	sets := make([]uint64, len(spaces))
	tidy := make([][]string, len(spaces))
	for i, s := range spaces {
		sets[i] = spaceSet(s)
		tidy[i] = impl.SpaceTidy(s)
	}
	for i, a := range spaces {
		for j, b := range spaces {
			same := impl.SpaceSame(a, b)
			if same != (sets[i] == sets[j]) || same != slices.Equal(tidy[i], tidy[j]) {
				t.Fatalf("SpaceSame(%q, %q) is %v, of %q and %q", a, b, same, tidy[i], tidy[j])
			}
		}
	}
}

// checkPair is promises 20 to 22, 24 and 28 for two header spaces of given sets.
func checkPair(t *testing.T, a []string, b []string, first uint64, second uint64) {
	t.Helper()
	or, and, less := impl.SpaceOr(a, b), impl.SpaceAnd(a, b), impl.SpaceLess(a, b)
	for _, c := range []struct {
		name string
		got  []string
		want uint64
	}{
		{"SpaceOr", or, first | second},
		{"SpaceAnd", and, first & second},
		{"SpaceLess", less, first &^ second},
	} {
		if want := wantSpace(c.want); !slices.Equal(c.got, want) {
			t.Fatalf("%s(%q, %q) is %q, not %q", c.name, a, b, c.got, want)
		}
	}
	if other := impl.SpaceOr(b, a); !slices.Equal(or, other) {
		t.Fatalf("SpaceOr(%q, %q) is %q, but %q the other way", a, b, or, other)
	}
	if other := impl.SpaceAnd(b, a); !slices.Equal(and, other) {
		t.Fatalf("SpaceAnd(%q, %q) is %q, but %q the other way", a, b, and, other)
	}
	if impl.SpaceMany(or)+impl.SpaceMany(and) != impl.SpaceMany(a)+impl.SpaceMany(b) {
		t.Fatalf("SpaceMany of %q and %q is not that of %q and %q", or, and, a, b)
	}
	empty := len(less) == 0
	if empty != slices.Equal(and, impl.SpaceTidy(a)) || empty != slices.Equal(or, impl.SpaceTidy(b)) {
		t.Fatalf("SpaceLess(%q, %q) is %q, SpaceAnd %q, SpaceOr %q", a, b, less, and, or)
	}
}

// Promises 20 to 22, 24 and 28.
func TestSpacePairs(t *testing.T) {
	spaces := someSpaces()
	for _, s := range drawnSpaces(24, 1) {
		// A part of a space, so that nothing remains in one direction.
		spaces = append(spaces, s[:len(s)/2])
	}
	sets := make([]uint64, len(spaces))
	for i, s := range spaces {
		sets[i] = spaceSet(s)
	}
	for i, a := range spaces {
		for j, b := range spaces {
			checkPair(t, a, b, sets[i], sets[j])
		}
	}
}

// Promises 20 to 22, 24 and 28, for every two sets of two positions, and for many of three.
func TestSpaceCubePairs(t *testing.T) {
	for _, positions := range [][3]int{{0, 1, 1}, {4, 5, 5}, {0, 5, 5}, {2, 3, 3}, {1, 4, 4}, {0, 1, 2}, {3, 4, 5}, {0, 2, 4}, {1, 3, 5}} {
		sets := cubeSets(positions)
		slices.Sort(sets)
		sets = slices.Compact(sets)
		step := 1 + len(sets)/50
		for i := 0; i < len(sets); i += step {
			for j := 0; j < len(sets); j += 1 + step/2 {
				checkPair(t, wantSpace(sets[i]), wantSpace(sets[j]), sets[i], sets[j])
			}
		}
	}
}

// Promises 20 to 22: a space with itself, with all headers and with none.
func TestSpaceAlone(t *testing.T) {
	all := []string{"xxxxxx"}
	for _, s := range append(someSpaces(), drawnSpaces(100, 20)...) {
		tidy := impl.SpaceTidy(s)
		for _, same := range [][]string{
			impl.SpaceOr(s, s), impl.SpaceAnd(s, s), impl.SpaceAnd(s, all), impl.SpaceAnd(all, s), impl.SpaceAnd(s, headList(allHeads)),
			impl.SpaceOr(s, nil), impl.SpaceOr(nil, s), impl.SpaceLess(s, nil),
			impl.SpaceLess(all, impl.SpaceLess(all, s)),
		} {
			if !slices.Equal(same, tidy) {
				t.Fatalf("%q of %q, not %q", same, s, tidy)
			}
		}
		for _, none := range [][]string{
			impl.SpaceLess(s, s), impl.SpaceLess(s, tidy), impl.SpaceLess(tidy, s), impl.SpaceLess(s, all),
			impl.SpaceAnd(s, nil), impl.SpaceAnd(nil, s), impl.SpaceLess(nil, s),
		} {
			if len(none) != 0 {
				t.Fatalf("%q of %q, not an empty slice", none, s)
			}
		}
		if or := impl.SpaceOr(all, s); !slices.Equal(or, all) {
			t.Fatalf("SpaceOr of all headers and %q is %q", s, or)
		}
	}
}

func TestSpacePairCases(t *testing.T) {
	zero, one := []string{"0xxxxx"}, []string{"xxxxx1"}
	for _, c := range []struct {
		name      string
		got, want []string
	}{
		{"or", impl.SpaceOr(zero, one), []string{"0xxxxx", "1xxxx1"}},
		{"and", impl.SpaceAnd(zero, one), []string{"0xxxx1"}},
		{"less", impl.SpaceLess(zero, one), []string{"0xxxx0"}},
		{"less the other way", impl.SpaceLess(one, zero), []string{"1xxxx1"}},
		{"or of both halves", impl.SpaceOr(zero, []string{"1xxxxx"}), []string{"xxxxxx"}},
		{"and of both halves", impl.SpaceAnd(zero, []string{"1xxxxx"}), nil},
		{"less of both halves", impl.SpaceLess(zero, []string{"1xxxxx"}), zero},
		{"less of one header", impl.SpaceLess([]string{"xxxxxx"}, []string{"011011"}), []string{"00xxxx", "010xxx", "01100x", "011010", "0111xx", "1xxxxx"}},
	} {
		if !slices.Equal(c.got, c.want) {
			t.Errorf("%s: %q, not %q", c.name, c.got, c.want)
		}
	}
}

// Two spaces of SpaceMax patterns each have more together, and still have a union.
func TestSpaceFull(t *testing.T) {
	var a, b []string
	for n, w := range headList(allHeads) {
		a = append(a, w[:5]+"x")
		b = append(b, "0"+headList(allHeads)[63-n][1:])
	}
	if len(a) != 64 || len(b) != 64 || !impl.SpaceOk(a) || !impl.SpaceOk(b) {
		t.Fatalf("%q and %q are to be spaces of 64 patterns", a, b)
	}
	checkPair(t, a, b, allHeads, spaceSet(b))
	checkPair(t, b, b, spaceSet(b), spaceSet(b))
	even, odd := headList(longestSet()), headList(^longestSet())
	checkPair(t, append(even, even...), append(odd, odd...), longestSet(), ^longestSet())
}

// Promises 23 and 29.
func TestSpaceThree(t *testing.T) {
	spaces := [][]string{nil, {"xxxxxx"}, {"011011"}, {"0xxxxx", "x0xxxx"}, {"xxx01x", "xxx10x"}, wantSpace(longestSet()), headList(allHeads >> 1)}
	spaces = append(spaces, drawnSpaces(15, 23)...)
	for _, a := range spaces {
		for _, b := range spaces {
			or, and := impl.SpaceOr(a, b), impl.SpaceAnd(a, b)
			for _, c := range spaces {
				if left, right := impl.SpaceAnd(c, or), impl.SpaceOr(impl.SpaceAnd(c, a), impl.SpaceAnd(c, b)); !slices.Equal(left, right) {
					t.Fatalf("SpaceAnd of %q over SpaceOr of %q and %q is %q, not %q", c, a, b, left, right)
				}
				if left, right := impl.SpaceOr(or, c), impl.SpaceOr(a, impl.SpaceOr(b, c)); !slices.Equal(left, right) {
					t.Fatalf("SpaceOr of %q, %q and %q is %q or %q", a, b, c, left, right)
				}
				if left, right := impl.SpaceAnd(and, c), impl.SpaceAnd(a, impl.SpaceAnd(b, c)); !slices.Equal(left, right) {
					t.Fatalf("SpaceAnd of %q, %q and %q is %q or %q", a, b, c, left, right)
				}
			}
		}
	}
}

// Promise 23, for complements.
func TestSpaceComplement(t *testing.T) {
	all := []string{"xxxxxx"}
	for _, a := range someSpaces() {
		set := spaceSet(a)
		notA := impl.SpaceLess(all, a)
		if !slices.Equal(notA, wantSpace(^set)) {
			t.Fatalf("the complement of %q is %q", a, notA)
		}
		for _, b := range someSpaces() {
			left := impl.SpaceLess(all, impl.SpaceOr(a, b))
			right := impl.SpaceAnd(notA, impl.SpaceLess(all, b))
			if !slices.Equal(left, right) {
				t.Fatalf("the complement of the union of %q and %q is %q or %q", a, b, left, right)
			}
		}
	}
}

// Promise 24.
func TestSpaceManyCounts(t *testing.T) {
	spaces := append(someSpaces(), drawnSpaces(200, 24)...)
	for _, w := range allWilds() {
		spaces = append(spaces, []string{w})
	}
	for _, s := range spaces {
		sum := 0
		for _, w := range impl.SpaceTidy(s) {
			sum += impl.WildMany(w)
		}
		if n := impl.SpaceMany(s); n != sum || n != setCount(spaceSet(s)) {
			t.Fatalf("SpaceMany(%q) is %d, not %d", s, n, sum)
		}
	}
	for _, c := range []struct {
		s    []string
		want int
	}{
		{[]string{"0xxxxx", "x0xxxx"}, 48},
		{nil, 0},
		{[]string{}, 0},
		{[]string{"xxxxxx"}, 64},
		{[]string{"xxxxxx", "xxxxxx", "0xxxxx"}, 64},
		{headList(allHeads), 64},
		{[]string{"011011"}, 1},
		{[]string{"011011", "011011"}, 1},
		{[]string{"01xxxx", "xxxxx0"}, 40},
	} {
		if n := impl.SpaceMany(c.s); n != c.want {
			t.Errorf("SpaceMany(%q) is %d, not %d", c.s, n, c.want)
		}
	}
}

// Promise 25.
func TestSpaceOkParts(t *testing.T) {
	no := noWilds()
	for k, s := range someSpaces() {
		if !impl.SpaceOk(s) {
			t.Fatalf("SpaceOk(%q) is false", s)
		}
		for i := range s {
			less := slices.Delete(slices.Clone(s), i, i+1)
			if !impl.SpaceOk(less) {
				t.Fatalf("SpaceOk(%q) is false", less)
			}
			with := slices.Clone(s)
			with[i] = no[(i+k)%len(no)]
			if impl.SpaceOk(with) {
				t.Fatalf("SpaceOk(%q) is true", with)
			}
		}
		for i := 0; i <= len(s); i++ {
			more := slices.Insert(slices.Clone(s), i, no[(i+k)%len(no)])
			if impl.SpaceOk(more) {
				t.Fatalf("SpaceOk(%q) is true", more)
			}
		}
	}
	for _, w := range no {
		if impl.SpaceOk([]string{w}) || impl.SpaceOk([]string{w, "xxxxxx"}) || impl.SpaceOk([]string{"xxxxxx", w}) {
			t.Fatalf("SpaceOk with %q is true", w)
		}
	}
}

func TestSpaceOkLengths(t *testing.T) {
	for n := range 200 {
		for _, w := range []string{"xxxxxx", "011011"} {
			s := slices.Repeat([]string{w}, n)
			if impl.SpaceOk(s) != (n <= 64) {
				t.Errorf("SpaceOk of %d patterns %q is %v", n, w, n > 64)
			}
		}
	}
	if !impl.SpaceOk(nil) || !impl.SpaceOk([]string{}) {
		t.Error("SpaceOk of the empty space is false")
	}
}

// Promise 26. Every seventh second pattern, a different one for each first, keeps the test short.
func TestSpaceLessWild(t *testing.T) {
	wilds := allWilds()
	for i, a := range wilds {
		for j := i % 7; j < len(wilds); j += 7 {
			b := wilds[j]
			wild, space := impl.WildLess(a, b), impl.SpaceLess([]string{a}, []string{b})
			if !impl.SpaceSame(wild, space) || !impl.SpaceSame(space, wild) {
				t.Fatalf("WildLess(%q, %q) is %q, but SpaceLess is %q", a, b, wild, space)
			}
		}
	}
}

// Promise 27.
func TestSpaceHalves(t *testing.T) {
	for _, w := range allWilds() {
		for i := range 6 {
			if w[i] != 'x' {
				continue
			}
			zero, one := []string{w[:i] + "0" + w[i+1:]}, []string{w[:i] + "1" + w[i+1:]}
			if both, ok := impl.WildAnd(zero[0], one[0]); ok {
				t.Fatalf("WildAnd(%q, %q) is %q", zero, one, both)
			}
			if and := impl.SpaceAnd(zero, one); len(and) != 0 {
				t.Fatalf("SpaceAnd(%q, %q) is %q", zero, one, and)
			}
			if or := impl.SpaceOr(one, zero); !slices.Equal(or, []string{w}) {
				t.Fatalf("SpaceOr(%q, %q) is %q", one, zero, or)
			}
			if !impl.SpaceSame([]string{one[0], zero[0]}, []string{w}) || impl.SpaceSame(zero, []string{w}) || impl.SpaceSame(one, zero) {
				t.Fatalf("SpaceSame of the halves of %q", w)
			}
			if impl.WildMany(zero[0])+impl.WildMany(one[0]) != impl.WildMany(w) {
				t.Fatalf("WildMany of the halves of %q", w)
			}
		}
	}
}

func TestSpaceEmpty(t *testing.T) {
	for _, s := range [][]string{nil, {}, make([]string, 0, 9)} {
		if !impl.SpaceOk(s) || len(impl.SpaceTidy(s)) != 0 || impl.SpaceMany(s) != 0 {
			t.Errorf("the empty space: %v, %q, %d", impl.SpaceOk(s), impl.SpaceTidy(s), impl.SpaceMany(s))
		}
		for _, h := range validHeads() {
			if impl.SpaceHas(s, h) {
				t.Errorf("SpaceHas of the empty space and %v is true", h)
			}
		}
		for _, other := range [][]string{nil, {}} {
			if !impl.SpaceSame(s, other) || len(impl.SpaceOr(s, other)) != 0 || len(impl.SpaceAnd(s, other)) != 0 || len(impl.SpaceLess(s, other)) != 0 {
				t.Error("two empty spaces")
			}
		}
		if impl.SpaceSame(s, []string{"000000"}) || impl.SpaceSame([]string{"111111"}, s) {
			t.Error("SpaceSame of the empty space and a header is true")
		}
	}
}

// What is no header space, alone, in either place, and in both.
func TestSpaceRejects(t *testing.T) {
	for _, no := range noSpaces() {
		if impl.SpaceOk(no) || len(impl.SpaceTidy(no)) != 0 || impl.SpaceMany(no) != -1 {
			t.Fatalf("%q: %v, %q, %d", no, impl.SpaceOk(no), impl.SpaceTidy(no), impl.SpaceMany(no))
		}
		pairs := [][2][]string{{no, no}, {no, {""}}, {{"xxxxxxx"}, no}}
		for _, s := range [][]string{nil, {"xxxxxx"}, {"000000"}, {"0xxxxx", "x0xxxx"}, headList(allHeads)} {
			pairs = append(pairs, [2][]string{no, s}, [2][]string{s, no})
		}
		for _, p := range pairs {
			if or := impl.SpaceOr(p[0], p[1]); len(or) != 0 {
				t.Fatalf("SpaceOr(%q, %q) is %q", p[0], p[1], or)
			}
			if and := impl.SpaceAnd(p[0], p[1]); len(and) != 0 {
				t.Fatalf("SpaceAnd(%q, %q) is %q", p[0], p[1], and)
			}
			if less := impl.SpaceLess(p[0], p[1]); len(less) != 0 {
				t.Fatalf("SpaceLess(%q, %q) is %q", p[0], p[1], less)
			}
			if impl.SpaceSame(p[0], p[1]) {
				t.Fatalf("SpaceSame(%q, %q) is true", p[0], p[1])
			}
		}
	}
}

// Arguments keep their strings, also those beyond their length.
func TestSpaceArgumentsKept(t *testing.T) {
	for _, s := range append(someSpaces(), noSpaces()[:12]...) {
		a := append(slices.Clone(s), "beyond", "beyond")
		b := append(slices.Clone(s), "beyond", "beyond")
		wantA := slices.Clone(a)
		first, second := a[:len(s)], b[:len(s)]
		impl.SpaceOk(first)
		impl.SpaceHas(first, impl.Head{Src: 1})
		impl.SpaceTidy(first)
		impl.SpaceOr(first, second)
		impl.SpaceAnd(first, second)
		impl.SpaceLess(first, second)
		impl.SpaceOr(first, first)
		impl.SpaceSame(first, second)
		impl.SpaceMany(first)
		if !slices.Equal(a, wantA) || !slices.Equal(b, wantA) {
			t.Fatalf("arguments changed from %q to %q and %q", wantA, a, b)
		}
	}
}

// Each result is changed to the end of its capacity; neither the arguments nor other results may change with it.
func TestSpaceOwnMemory(t *testing.T) {
	calls := map[string]func(a []string) []string{
		"SpaceTidy":     func(a []string) []string { return impl.SpaceTidy(a) },
		"SpaceOr":       func(a []string) []string { return impl.SpaceOr(a, nil) },
		"SpaceOr after": func(a []string) []string { return impl.SpaceOr(nil, a) },
		"SpaceOr self":  func(a []string) []string { return impl.SpaceOr(a, a) },
		"SpaceAnd":      func(a []string) []string { return impl.SpaceAnd(a, []string{"xxxxxx"}) },
		"SpaceAnd self": func(a []string) []string { return impl.SpaceAnd(a, a) },
		"SpaceLess":     func(a []string) []string { return impl.SpaceLess(a, nil) },
	}
	for name, call := range calls {
		for _, s := range [][]string{{"011011"}, {"xxxxxx"}, {"0xxxxx", "10xxxx"}, wantSpace(longestSet())} {
			a := slices.Clone(s)
			first, second := call(a), call(a)
			first = first[:cap(first)]
			for i := range first {
				first[i] = "changed"
			}
			if !slices.Equal(a, s) || !slices.Equal(second, s) || !slices.Equal(call(a), s) {
				t.Errorf("%s of %q shares memory: %q, %q", name, s, a, second)
			}
		}
	}
}
