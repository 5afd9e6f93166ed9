package tests

import (
	"math/rand/v2"
	"slices"
	"strings"
	"testing"

	"loop.example/crossbuck/impl"
)

// madePred is a condition put together from its operands, with what the document says of it.
type madePred struct {
	text  string
	parts []string
	set   uint64
	deep  int
}

// fieldOf is the field of a header that a sign names.
func fieldOf(h impl.Head, sign rune) int {
	switch sign {
	case 's':
		return h.Src
	case 'd':
		return h.Dst
	}
	return h.Tag
}

// signPreds is the conditions without operands: two constants, and each field with each of its values.
func signPreds() []madePred {
	l := []madePred{{"0", []string{"0"}, 0, 1}, {"1", []string{"1"}, allHeads, 1}}
	for _, field := range "sdt" {
		for value := range 4 {
			text := string(field) + string(rune('0'+value))
			var set uint64
			for n, h := range validHeads() {
				if fieldOf(h, field) == value {
					set |= 1 << n
				}
			}
			l = append(l, madePred{text, []string{text}, set, 1})
		}
	}
	return l
}

func madeNot(a madePred) madePred {
	return madePred{"!" + a.text, []string{"!", a.text}, ^a.set, 1 + a.deep}
}

func madeAnd(a, b madePred) madePred {
	return madePred{"&" + a.text + b.text, []string{"&", a.text, b.text}, a.set & b.set, 1 + max(a.deep, b.deep)}
}

func madeOr(a, b madePred) madePred {
	return madePred{"|" + a.text + b.text, []string{"|", a.text, b.text}, a.set | b.set, 1 + max(a.deep, b.deep)}
}

// shortPreds is every condition of at most the given length, shorter ones first.
func shortPreds(length int) []madePred {
	made := make([][]madePred, length+1)
	for _, p := range signPreds() {
		if len(p.text) <= length {
			made[len(p.text)] = append(made[len(p.text)], p)
		}
	}
	for n := 2; n <= length; n++ {
		for _, a := range made[n-1] {
			made[n] = append(made[n], madeNot(a))
		}
		for first := 1; first < n-1; first++ {
			for _, a := range made[first] {
				for _, b := range made[n-1-first] {
					made[n] = append(made[n], madeAnd(a, b), madeOr(a, b))
				}
			}
		}
	}
	return slices.Concat(made...)
}

// drawPred is a condition of exactly the given length, which is at least 1, made from signPreds.
func drawPred(draw *rand.Rand, signs []madePred, length int) madePred {
	switch {
	case length == 1:
		return signs[draw.IntN(2)]
	case length == 2 && draw.IntN(8) > 0:
		return signs[2+draw.IntN(12)]
	case length == 2 || draw.IntN(5) == 0:
		return madeNot(drawPred(draw, signs, length-1))
	}
	first := 1 + draw.IntN(length-2)
	a, b := drawPred(draw, signs, first), drawPred(draw, signs, length-1-first)
	if draw.IntN(2) == 0 {
		return madeAnd(a, b)
	}
	return madeOr(a, b)
}

// drawnPreds is conditions of each length from one to another, drawn by a fixed seed.
func drawnPreds(from int, to int, each int, seed uint64) []madePred {
	draw, signs := rand.New(rand.NewPCG(seed, 4)), signPreds()
	var l []madePred
	for length := from; length <= to; length++ {
		for range each {
			l = append(l, drawPred(draw, signs, length))
		}
	}
	return l
}

// chainPreds is one sign again and again around a condition of one sign, as often as the given length allows: "!" alone, and "&" and "|", also in turn, with the compound operand first and second.
func chainPreds(length int) []madePred {
	var l []madePred
	constants := signPreds()[:2]
	for _, end := range signPreds() {
		not := end
		for len(not.text) < length {
			not = madeNot(not)
		}
		l = append(l, not)
		for _, other := range constants {
			chains := []madePred{end, end, end, end, end, end}
			for k := 0; len(chains[0].text)+2 <= length; k++ {
				turn := []func(a, b madePred) madePred{madeAnd, madeOr}[k%2]
				chains[0] = madeAnd(other, chains[0])
				chains[1] = madeAnd(chains[1], other)
				chains[2] = madeOr(other, chains[2])
				chains[3] = madeOr(chains[3], other)
				chains[4] = turn(other, chains[4])
				chains[5] = turn(chains[5], other)
			}
			l = append(l, chains...)
		}
	}
	return l
}

// somePreds is every short condition, the chains that end at PredMax, and drawn conditions of the lengths between.
func somePreds() []madePred {
	return slices.Concat(shortPreds(5), chainPreds(16), chainPreds(15), drawnPreds(5, 16, 40, 1))
}

// predText says whether a text is a condition, by how many conditions are still missing after each of its signs.
func predText(text string) bool {
	missing := 1
	for i := 0; i < len(text); i++ {
		if missing == 0 {
			return false
		}
		switch {
		case text[i] == '&' || text[i] == '|':
			missing++
		case text[i] == '0' || text[i] == '1':
			missing--
		case text[i] == '!':
		case strings.IndexByte("sdt", text[i]) >= 0:
			i++
			if i == len(text) || strings.IndexByte("0123", text[i]) < 0 {
				return false
			}
			missing--
		default:
			return false
		}
	}
	return missing == 0 && len(text) <= 16
}

// noPreds is texts that are no conditions.
func noPreds() []string {
	l := []string{
		"", "!", "&", "|", "s", "d", "t", "&0", "|1", "|s1", "&s1", "!!", "!s", "&0s", "&s10d", "&&00", "||s1d2", "&!0", "!&0",
		"00", "01", "11", "s12", "s10", "s1d1", "s1!0", "!01", "!!01", "&001", "&s1d21", "|&0110", "|s1d2!", "0!", "1&", "s1s", "s1 ",
		"s4", "d9", "t5", "s-", "s/", "d:", "t?", "ss", "sd", "s!", "s&01", "!s4", "&s1d4", "|s4d1", "s\x00", "t\xff", "s٣",
		"2", "3", "9", "x", "S1", "D2", "T3", "*01", "+01", "-1", "~1", "^1", "n1", "a", " ", "1 ", " 1", "! 1", "& 01", "&0 1", "(1)", "s=1", "\x00", "\xff", "0\x00", "0\n", "٠", "true", "1s", "1s1", "xxxxxx", "0.1.2",
	}
	for _, p := range chainPreds(17) {
		if len(p.text) == 17 {
			l = append(l, p.text)
		}
	}
	for _, p := range drawnPreds(17, 24, 3, 2) {
		l = append(l, p.text)
	}
	return append(l,
		strings.Repeat("!", 16), strings.Repeat("!", 17), strings.Repeat("&", 16), strings.Repeat("0", 16), strings.Repeat("s1", 8),
		strings.Repeat("!", 99999)+"0", strings.Repeat("&", 99999), strings.Repeat("|0", 99999)+"0")
}

func TestPredLimits(t *testing.T) {
	if impl.PredMax != 16 {
		t.Errorf("PredMax is %d", impl.PredMax)
	}
	for _, p := range somePreds() {
		if !predText(p.text) {
			t.Errorf("%q is to be a condition", p.text)
		}
	}
	for _, no := range noPreds() {
		if predText(no) {
			t.Errorf("%q is to be no condition", no)
		}
	}
}

func TestPredOkMade(t *testing.T) {
	for _, p := range somePreds() {
		if !impl.PredOk(p.text) {
			t.Fatalf("PredOk(%q) is false", p.text)
		}
	}
}

// Every text of up to five signs, among them one digit too great and one byte that is no sign: those that are conditions are the ones that can be made.
func TestPredOkTexts(t *testing.T) {
	made := map[string]bool{}
	for _, p := range shortPreds(5) {
		made[p.text] = true
	}
	texts, found := []string{""}, 0
	for range 5 {
		var longer []string
		for _, text := range texts {
			for _, sign := range "01234sdt!&|x" {
				longer = append(longer, text+string(sign))
			}
		}
		texts = longer
		for _, text := range texts {
			if impl.PredOk(text) != made[text] {
				t.Fatalf("PredOk(%q) is %v", text, !made[text])
			}
			if made[text] {
				found++
			}
		}
	}
	if found != len(made) {
		t.Errorf("%d of %d conditions found", found, len(made))
	}
}

// Every text of one byte and of two, and every change of one byte of some conditions.
func TestPredOkBytes(t *testing.T) {
	check := func(text string) {
		if impl.PredOk(text) != predText(text) {
			t.Fatalf("PredOk(%q) is %v", text, !predText(text))
		}
	}
	for a := range 256 {
		check(string([]byte{byte(a)}))
		for b := range 256 {
			check(string([]byte{byte(a), byte(b)}))
		}
	}
	texts := []string{"&s1!d2", "&!s1|d2t3", "|&01!0", "!!!!!!!!!!!!!!!1", "&&s0d1|!t2!&01s3"}
	for _, p := range drawnPreds(14, 16, 4, 3) {
		texts = append(texts, p.text)
	}
	for _, text := range texts {
		for i := range len(text) {
			for b := range 256 {
				check(text[:i] + string([]byte{byte(b)}) + text[i+1:])
			}
		}
	}
}

// PredMax bytes, and one more.
func TestPredLengths(t *testing.T) {
	for _, c := range []struct {
		text string
		deep int
	}{
		{"!!!!!!!!!!!!!!!0", 16},
		{"!!!!!!!!!!!!!!!1", 16},
		{"!!!!!!!!!!!!!!s1", 15},
		{"&0&0&0&0&0&0&01", 8},
		{"&0&0&0&0&0&0&0s1", 8},
		{"&&&&&&&s10000000", 8},
		{"|1|1|1|1|1|1|1t3", 8},
		{"|||||||t31111111", 8},
		{"&0|1&0|1&0|1&0d2", 8},
		{"!&0&0&0&0&0&0&01", 9},
		{"&&s0s1!|&d0d1t23", 0},
		{"&&s0s1!|&d0d1t2", 5},
		{"&&s0s1!|&d0d1!t2", 5},
		{"||01|0|s1&d2d3", 5},
		{"||01|0|s1&d2d3t1", 0},
	} {
		if deep := impl.PredDeep(c.text); deep != c.deep || impl.PredOk(c.text) != (c.deep > 0) {
			t.Errorf("PredDeep(%q) is %d, not %d", c.text, deep, c.deep)
		}
		if len(c.text) == 16 && impl.PredOk("!"+c.text) {
			t.Errorf("PredOk(%q) is true", "!"+c.text)
		}
	}
	for length := 1; length < 40; length++ {
		for _, p := range append(chainPreds(length), drawnPreds(length, length, 5, 5)...) {
			if impl.PredOk(p.text) != (len(p.text) <= 16) {
				t.Fatalf("PredOk(%q) is %v", p.text, len(p.text) > 16)
			}
		}
	}
}

// Promise 30.
func TestPredHasEach(t *testing.T) {
	for _, p := range somePreds() {
		for n, h := range validHeads() {
			if has := impl.PredHas(p.text, h); has != (p.set>>n&1 == 1) {
				t.Fatalf("PredHas(%q, %v) is %v", p.text, h, has)
			}
		}
	}
}

// Promise 30, by what PredParts and PredHas say of the operands.
func TestPredHasParts(t *testing.T) {
	for _, p := range somePreds() {
		parts := impl.PredParts(p.text)
		if !slices.Equal(parts, p.parts) {
			t.Fatalf("PredParts(%q) is %q", p.text, parts)
		}
		for _, h := range validHeads() {
			var want bool
			switch parts[0][0] {
			case '!':
				want = !impl.PredHas(parts[1], h)
			case '&':
				want = impl.PredHas(parts[1], h) && impl.PredHas(parts[2], h)
			case '|':
				want = impl.PredHas(parts[1], h) || impl.PredHas(parts[2], h)
			case 's', 'd', 't':
				want = fieldOf(h, rune(p.text[0])) == int(p.text[1]-'0')
			case '1':
				want = true
			}
			if has := impl.PredHas(p.text, h); has != want {
				t.Fatalf("PredHas(%q, %v) is %v", p.text, h, has)
			}
		}
	}
}

// The example of the chapter.
func TestPredExample(t *testing.T) {
	for _, h := range validHeads() {
		if has := impl.PredHas("&s1!d2", h); has != (h.Src == 1 && h.Dst != 2) {
			t.Errorf("PredHas(\"&s1!d2\", %v) is %v", h, has)
		}
	}
	if s := impl.PredSpace("&s1!d2"); !slices.Equal(s, []string{"010xxx", "0111xx"}) {
		t.Errorf("PredSpace(\"&s1!d2\") is %q", s)
	}
}

// Promise 31.
func TestPredPartsMade(t *testing.T) {
	for _, p := range somePreds() {
		parts := impl.PredParts(p.text)
		if !slices.Equal(parts, p.parts) || strings.Join(parts, "") != p.text {
			t.Fatalf("PredParts(%q) is %q, not %q", p.text, parts, p.parts)
		}
		if len(parts) == 1 {
			continue
		}
		for i, part := range parts {
			if len(part) >= len(p.text) || impl.PredOk(part) != (i > 0) {
				t.Fatalf("PredParts(%q) is %q", p.text, parts)
			}
		}
	}
}

// Where an operand ends.
func TestPredPartsCases(t *testing.T) {
	for text, want := range map[string][]string{
		"0":                {"0"},
		"1":                {"1"},
		"s0":               {"s0"},
		"t3":               {"t3"},
		"!0":               {"!", "0"},
		"!!0":              {"!", "!0"},
		"!s1":              {"!", "s1"},
		"&01":              {"&", "0", "1"},
		"|10":              {"|", "1", "0"},
		"&s10":             {"&", "s1", "0"},
		"&1s0":             {"&", "1", "s0"},
		"&s1!d2":           {"&", "s1", "!d2"},
		"&!s1|d2t3":        {"&", "!s1", "|d2t3"},
		"|&01!0":           {"|", "&01", "!0"},
		"|s1&d2t0":         {"|", "s1", "&d2t0"},
		"&&010":            {"&", "&01", "0"},
		"&0&10":            {"&", "0", "&10"},
		"&|s0d1|t2s3":      {"&", "|s0d1", "|t2s3"},
		"|!&01!|10":        {"|", "!&01", "!|10"},
		"&&&s1d1t1&01":     {"&", "&&s1d1t1", "&01"},
		"!&&00&11":         {"!", "&&00&11"},
		"&0&0&0&0&0&0&0s1": {"&", "0", "&0&0&0&0&0&0s1"},
		"&&&&&&&s10000000": {"&", "&&&&&&s1000000", "0"},
		"!!!!!!!!!!!!!!!1": {"!", "!!!!!!!!!!!!!!1"},
	} {
		if parts := impl.PredParts(text); !slices.Equal(parts, want) {
			t.Errorf("PredParts(%q) is %q, not %q", text, parts, want)
		}
	}
}

// Promise 32.
func TestPredSpaceMade(t *testing.T) {
	lists := map[uint64][]string{}
	for _, p := range somePreds() {
		want, ok := lists[p.set]
		if !ok {
			want = wantSpace(p.set)
			lists[p.set] = want
		}
		if space := impl.PredSpace(p.text); !slices.Equal(space, want) {
			t.Fatalf("PredSpace(%q) is %q, not %q", p.text, space, want)
		}
	}
}

// Promise 32, by SpaceHas and SpaceTidy.
func TestPredSpaceHas(t *testing.T) {
	for _, p := range append(shortPreds(3), drawnPreds(4, 16, 10, 6)...) {
		space := impl.PredSpace(p.text)
		if !impl.SpaceOk(space) || !slices.Equal(impl.SpaceTidy(space), space) {
			t.Fatalf("PredSpace(%q) is %q", p.text, space)
		}
		for _, h := range validHeads() {
			if impl.SpaceHas(space, h) != impl.PredHas(p.text, h) {
				t.Fatalf("PredSpace(%q) is %q, but PredHas of %v is %v", p.text, space, h, impl.PredHas(p.text, h))
			}
		}
	}
}

func TestPredSpaceCases(t *testing.T) {
	for text, want := range map[string][]string{
		"0":         nil,
		"1":         {"xxxxxx"},
		"!1":        nil,
		"!0":        {"xxxxxx"},
		"s0":        {"00xxxx"},
		"s3":        {"11xxxx"},
		"d1":        {"xx01xx"},
		"t2":        {"xxxx10"},
		"&s1s2":     nil,
		"|s1s2":     {"01xxxx", "10xxxx"},
		"|s0s1":     {"0xxxxx"},
		"!s1":       {"00xxxx", "1xxxxx"},
		"&!s1|d2t3": {"000x11", "0010xx", "001111", "1x0x11", "1x10xx", "1x1111"},
		"|&01!0":    {"xxxxxx"},
		"&&s1d2t3":  {"011011"},
		"&s1&d2!t3": {"01100x", "011010"},
	} {
		if space := impl.PredSpace(text); !slices.Equal(space, want) {
			t.Errorf("PredSpace(%q) is %q, not %q", text, space, want)
		}
	}
}

// Promise 33.
func TestPredSpaceParts(t *testing.T) {
	all := []string{"xxxxxx"}
	preds := append(shortPreds(2), drawnPreds(3, 16, 5, 7)...)
	for _, a := range preds {
		first := impl.PredSpace(a.text)
		checkPredSpace(t, "!"+a.text, impl.SpaceLess(all, first))
		for _, b := range preds {
			second := impl.PredSpace(b.text)
			checkPredSpace(t, "&"+a.text+b.text, impl.SpaceAnd(first, second))
			checkPredSpace(t, "|"+a.text+b.text, impl.SpaceOr(first, second))
		}
	}
}

// checkPredSpace wants a space of a condition, or none if it is too long.
func checkPredSpace(t *testing.T, text string, want []string) {
	t.Helper()
	if len(text) > 16 {
		want = nil
	}
	if space := impl.PredSpace(text); !slices.Equal(space, want) {
		t.Fatalf("PredSpace(%q) is %q, not %q", text, space, want)
	}
}

// Promise 34.
func TestPredSamePairs(t *testing.T) {
	preds := slices.Concat(shortPreds(3), drawnPreds(4, 16, 12, 8), chainPreds(16)[:30])
	var spaces [][]string
	for _, p := range preds {
		spaces = append(spaces, impl.PredSpace(p.text))
	}
	for i, a := range preds {
		for j, b := range preds {
			same := impl.PredSame(a.text, b.text)
			if same != (a.set == b.set) || same != slices.Equal(spaces[i], spaces[j]) {
				t.Fatalf("PredSame(%q, %q) is %v", a.text, b.text, same)
			}
		}
	}
}

// Conditions that differ at one header alone, whichever it is.
func TestPredSameOneHeader(t *testing.T) {
	for _, h := range validHeads() {
		one := "&&s" + string(rune('0'+h.Src)) + "d" + string(rune('0'+h.Dst)) + "t" + string(rune('0'+h.Tag))
		if impl.PredSame(one, "0") || impl.PredSame("0", one) || impl.PredSame("!"+one, "1") || impl.PredSame("1", "!"+one) {
			t.Errorf("PredSame of %q and a constant is true", one)
		}
		if !impl.PredSame(one, one) || !impl.PredSame("!!"+one, one) || impl.PredSame("!"+one, one) {
			t.Errorf("PredSame of %q and its negations", one)
		}
	}
}

// Promise 35.
func TestPredDeepMade(t *testing.T) {
	for _, p := range somePreds() {
		most := 0
		if parts := impl.PredParts(p.text); len(parts) > 1 {
			for _, part := range parts[1:] {
				most = max(most, impl.PredDeep(part))
			}
		}
		if deep := impl.PredDeep(p.text); deep != p.deep || deep != 1+most {
			t.Fatalf("PredDeep(%q) is %d, not %d", p.text, deep, p.deep)
		}
	}
	for text, want := range map[string]int{"0": 1, "s1": 1, "!0": 2, "&01": 2, "&!01": 3, "&0!1": 3, "!&s1!d2": 4, "&!s1|d2t3": 3, "|&01!0": 3, "|!!!01": 5, "|0!!!1": 5} {
		if deep := impl.PredDeep(text); deep != want {
			t.Errorf("PredDeep(%q) is %d, not %d", text, deep, want)
		}
	}
}

// Promise 36, for a condition without its last byte. Its other beginnings are no conditions either.
func TestPredBeginnings(t *testing.T) {
	for _, p := range somePreds() {
		for i := range len(p.text) {
			if impl.PredOk(p.text[:i]) {
				t.Fatalf("PredOk(%q) is true, a beginning of %q", p.text[:i], p.text)
			}
		}
	}
}

// Promise 36, for a condition followed by another one. Followed by any byte it is no condition either.
func TestPredFollowed(t *testing.T) {
	preds := append(shortPreds(4), drawnPreds(5, 16, 6, 9)...)
	for _, a := range preds {
		for _, b := range preds {
			if impl.PredOk(a.text + b.text) {
				t.Fatalf("PredOk(%q) is true, %q and %q", a.text+b.text, a.text, b.text)
			}
		}
		for b := range 256 {
			if text := a.text + string([]byte{byte(b)}); impl.PredOk(text) {
				t.Fatalf("PredOk(%q) is true", text)
			}
		}
	}
}

// Promise 37.
func TestPredLaws(t *testing.T) {
	preds := append(shortPreds(3), drawnPreds(4, 16, 5, 10)...)
	for _, a := range preds {
		checkLaw(t, "!!"+a.text, a.text)
		for _, b := range preds {
			checkLaw(t, "!&"+a.text+b.text, "|!"+a.text+"!"+b.text)
			checkLaw(t, "!|"+a.text+b.text, "&!"+a.text+"!"+b.text)
			checkLaw(t, "&"+a.text+b.text, "!|!"+a.text+"!"+b.text)
			checkLaw(t, "|"+a.text+b.text, "!&!"+a.text+"!"+b.text)
		}
	}
}

// checkLaw wants two texts to be the same in either order, unless one of them is too long.
func checkLaw(t *testing.T, left string, right string) {
	t.Helper()
	want := len(left) <= 16 && len(right) <= 16
	if impl.PredSame(left, right) != want || impl.PredSame(right, left) != want {
		t.Fatalf("PredSame(%q, %q) is %v", left, right, !want)
	}
}

// What is no condition, alone, in either place, and in both.
func TestPredRejects(t *testing.T) {
	for _, no := range noPreds() {
		if impl.PredOk(no) || len(impl.PredParts(no)) != 0 || len(impl.PredSpace(no)) != 0 || impl.PredDeep(no) != 0 {
			t.Fatalf("%.40q: %v, %q, %q, %d", no, impl.PredOk(no), impl.PredParts(no), impl.PredSpace(no), impl.PredDeep(no))
		}
		for _, h := range append(validHeads(), impl.Head{Src: 4}, impl.Head{Tag: -1}) {
			if impl.PredHas(no, h) {
				t.Fatalf("PredHas(%.40q, %v) is true", no, h)
			}
		}
		for _, other := range []string{no, "", "x", "0", "1", "s1", "!0", "&s1!d2"} {
			if impl.PredSame(no, other) || impl.PredSame(other, no) {
				t.Fatalf("PredSame of %.40q and %q is true", no, other)
			}
		}
	}
}

func TestPredInvalidHeads(t *testing.T) {
	texts := []string{"1", "!0", "0", "!s1", "!d2", "!t3", "&!s1|d2t3", "&s1!d2", "!!!!!!!!!!!!!!!0"}
	for _, p := range signPreds() {
		texts = append(texts, p.text)
	}
	for _, h := range invalidHeads() {
		for _, text := range texts {
			if impl.PredHas(text, h) {
				t.Fatalf("PredHas(%q, %v) is true", text, h)
			}
		}
	}
}

// Each result is changed to the end of its capacity; no other result may change with it.
func TestPredOwnMemory(t *testing.T) {
	for name, call := range map[string]func(text string) []string{"PredParts": impl.PredParts, "PredSpace": impl.PredSpace} {
		for _, text := range []string{"1", "s1", "!0", "!d2", "&s1!d2", "&!s1|d2t3", "|&01!0"} {
			first, second := call(text), call(text)
			want := slices.Clone(second)
			first = first[:cap(first)]
			for i := range first {
				first[i] = "changed"
			}
			if len(want) == 0 || !slices.Equal(second, want) || !slices.Equal(call(text), want) {
				t.Errorf("%s(%q) shares memory: %q", name, text, second)
			}
		}
	}
}
