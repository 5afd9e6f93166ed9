package tests

import (
	"fmt"
	"math"
	"testing"

	"loop.example/crossbuck/impl"
)

// beyond is values outside the range of a field. Those after the first four have low bits that are a valid field, or are one after wrapping around.
var beyond = []int{
	-1, impl.FieldMax + 1, math.MinInt, math.MaxInt,
	-4, -256, -253, 5, 8, 16, 63, 64, 255, 256, 257, 1 << 16, 1 << 32, 1<<32 + 3, math.MinInt + 1, math.MaxInt - 3,
}

// validHeads is all valid headers, in the order of their numbers as the document defines them.
func validHeads() []impl.Head {
	var l []impl.Head
	for src := 0; src <= 3; src++ {
		for dst := 0; dst <= 3; dst++ {
			for tag := 0; tag <= 3; tag++ {
				l = append(l, impl.Head{Src: src, Dst: dst, Tag: tag})
			}
		}
	}
	return l
}

// invalidHeads is each valid header with one field replaced by a value beyond, and headers with several such fields.
func invalidHeads() []impl.Head {
	var l []impl.Head
	for _, v := range beyond {
		for _, h := range validHeads() {
			l = append(l,
				impl.Head{Src: v, Dst: h.Dst, Tag: h.Tag},
				impl.Head{Src: h.Src, Dst: v, Tag: h.Tag},
				impl.Head{Src: h.Src, Dst: h.Dst, Tag: v})
		}
		for _, w := range beyond {
			l = append(l,
				impl.Head{Src: v, Dst: w, Tag: 1},
				impl.Head{Src: v, Dst: 1, Tag: w},
				impl.Head{Src: 1, Dst: v, Tag: w},
				impl.Head{Src: v, Dst: w, Tag: v})
		}
	}
	return l
}

func TestHeadLimits(t *testing.T) {
	if impl.FieldMax != 3 {
		t.Errorf("FieldMax is %d", impl.FieldMax)
	}
	if l := validHeads(); len(l) != 64 {
		t.Errorf("%d valid headers", len(l))
	}
}

// Promise 1.
func TestHeadReadBack(t *testing.T) {
	for _, h := range validHeads() {
		want := fmt.Sprintf("%d.%d.%d", h.Src, h.Dst, h.Tag)
		if text := impl.HeadText(h); text != want {
			t.Errorf("HeadText(%v) is %q", h, text)
		}
		if g, ok := impl.HeadRead(want); !ok || g != h {
			t.Errorf("HeadRead(%q) is %v, %v", want, g, ok)
		}
		if g, ok := impl.HeadOf(impl.HeadNum(h)); !ok || g != h {
			t.Errorf("HeadOf(HeadNum(%v)) is %v, %v", h, g, ok)
		}
	}
	for _, h := range invalidHeads() {
		if text := impl.HeadText(h); text != "" {
			t.Errorf("HeadText(%v) is %q", h, text)
		}
	}
}

// Promise 2.
func TestHeadReadRejects(t *testing.T) {
	texts := []string{
		"", "4.0.0", "0.4.0", "0.0.4", "9.9.9", "01.2.3", "1.02.3", "1.2.03", "00.0.0",
		"+1.2.3", "-1.2.3", "1.+2.3", "1.-2.3", "1.2.+3", "1.2.-3", "-0.0.0", "+.0.0", "0.0.-",
		"1,2.3", "1.2,3", "1 2 3", "1:2:3", "123", "12345", ".....", "1.2.33", "11.2.3", "1.22.3",
		"1.2.3.", ".1.2.3", "1.2.3.0", "1..2.3", "1.2..3", " 1.2.3", "1.2.3 ", "1. 2.3", "1.2.3\n", "\n1.2.3", "1.2.3\x00",
		"1", "1.", "1.2", "1.2.", "1..3", ".2.3", "..", "1.2.x", "a.b.c", "1.2.\xff", "\x001.2.", "/.0.0", "0.:.0",
		"1.2.\u0663", "\u0661.\u0662.\u0663", "1.2.3\u00a0", "0x1.2.3", "1.0.2.3", "{1 2 3}", "1.2.3" + "1.2.3",
	}
	for _, text := range texts {
		if h, ok := impl.HeadRead(text); ok || h != (impl.Head{}) {
			t.Errorf("HeadRead(%q) is %v, %v", text, h, ok)
		}
	}
}

// checkRead fails unless HeadRead accepts exactly the texts of valid headers.
func checkRead(t *testing.T, texts map[string]impl.Head, text string) {
	t.Helper()
	want, valid := texts[text]
	h, ok := impl.HeadRead(text)
	if ok != valid || h != want {
		t.Errorf("HeadRead(%q) is %v, %v", text, h, ok)
	}
	if ok && (!impl.HeadOk(h) || impl.HeadText(h) != text) {
		t.Errorf("HeadRead(%q) is %v, whose text is %q", text, h, impl.HeadText(h))
	}
}

// Promise 2, for every text that one byte replaced, added or removed makes of a valid one.
func TestHeadReadOneWay(t *testing.T) {
	texts := map[string]impl.Head{}
	for _, h := range validHeads() {
		texts[fmt.Sprintf("%d.%d.%d", h.Src, h.Dst, h.Tag)] = h
	}
	for text := range texts {
		for i := 0; i <= len(text); i++ {
			for c := 0; c < 256; c++ {
				added := string([]byte{byte(c)})
				checkRead(t, texts, text[:i]+added+text[i:])
				if i < len(text) {
					checkRead(t, texts, text[:i]+added+text[i+1:])
				}
			}
			if i < len(text) {
				checkRead(t, texts, text[:i]+text[i+1:])
			}
			checkRead(t, texts, text[:i])
			checkRead(t, texts, text[i:])
		}
	}
}

// Promise 3.
func TestHeadOfNumbers(t *testing.T) {
	for n := 0; n < 64; n++ {
		h, ok := impl.HeadOf(n)
		if !ok || !impl.HeadOk(h) || impl.HeadNum(h) != n || h != validHeads()[n] {
			t.Errorf("HeadOf(%d) is %v, %v", n, h, ok)
		}
	}
	beside := []int{math.MinInt, math.MinInt + 27, math.MaxInt, math.MaxInt - 63, 1 << 16, 1<<32 + 27, -1 << 32}
	for n := 1; n <= 1024; n++ {
		beside = append(beside, -n, 63+n)
	}
	for _, n := range beside {
		if h, ok := impl.HeadOf(n); ok || h != (impl.Head{}) {
			t.Errorf("HeadOf(%d) is %v, %v", n, h, ok)
		}
	}
}

// Promise 4.
func TestHeadNumDiffers(t *testing.T) {
	seen := map[int]impl.Head{}
	for i, h := range validHeads() {
		n := impl.HeadNum(h)
		if n != i || n != 16*h.Src+4*h.Dst+h.Tag {
			t.Errorf("HeadNum(%v) is %d", h, n)
		}
		if g, ok := seen[n]; ok {
			t.Errorf("HeadNum of %v and %v is %d", g, h, n)
		}
		seen[n] = h
	}
	if n := impl.HeadNum(impl.Head{Src: 1, Dst: 2, Tag: 3}); n != 27 {
		t.Errorf("HeadNum(1.2.3) is %d", n)
	}
	for _, h := range invalidHeads() {
		if n := impl.HeadNum(h); n != -1 {
			t.Errorf("HeadNum(%v) is %d", h, n)
		}
	}
}

// Promise 5, for valid headers and tags.
func TestHeadTagSets(t *testing.T) {
	for _, h := range validHeads() {
		if g, ok := impl.HeadTag(h, h.Tag); !ok || g != h {
			t.Errorf("HeadTag(%v, %d) is %v, %v", h, h.Tag, g, ok)
		}
		for first := 0; first <= 3; first++ {
			g, ok := impl.HeadTag(h, first)
			if !ok || g != (impl.Head{Src: h.Src, Dst: h.Dst, Tag: first}) {
				t.Errorf("HeadTag(%v, %d) is %v, %v", h, first, g, ok)
			}
			for second := 0; second <= 3; second++ {
				twice, ok := impl.HeadTag(g, second)
				once, onceOk := impl.HeadTag(h, second)
				if !ok || !onceOk || twice != once {
					t.Errorf("HeadTag(%v, %d) after %d is %v, and %v without it", h, second, first, twice, once)
				}
			}
		}
	}
}

// Promise 5, for invalid headers and tags.
func TestHeadTagRejects(t *testing.T) {
	for _, h := range invalidHeads() {
		for tag := -1; tag <= impl.FieldMax+1; tag++ {
			if g, ok := impl.HeadTag(h, tag); ok || g != (impl.Head{}) {
				t.Errorf("HeadTag(%v, %d) is %v, %v", h, tag, g, ok)
			}
		}
	}
	for _, h := range validHeads() {
		for _, tag := range beyond {
			if g, ok := impl.HeadTag(h, tag); ok || g != (impl.Head{}) {
				t.Errorf("HeadTag(%v, %d) is %v, %v", h, tag, g, ok)
			}
		}
	}
}

// Promise 6.
func TestHeadOkRange(t *testing.T) {
	for _, h := range validHeads() {
		if !impl.HeadOk(h) {
			t.Errorf("HeadOk(%v) is false", h)
		}
	}
	for _, h := range invalidHeads() {
		if impl.HeadOk(h) {
			t.Errorf("HeadOk(%v) is true", h)
		}
	}
}
