package impl

import "strconv"

// FieldMax is the greatest number of a field of a head.
const FieldMax = 3

// A field takes fieldBits bits of a headBits, so FieldMax is also its mask.
const (
	fieldBits = 2
	headCount = 1 << (3 * fieldBits)
)

// Head is the head of a packet: whence it comes, where it is to go, and a tag.
type Head struct {
	Src int
	Dst int
	Tag int
}

// headBits is a valid head as a bit vector. Src has the most significant bits and Tag the least, so that its value is the number of the head.
type headBits uint8

// bitsOf checks before it packs, because a field beyond would spill into its neighbour.
func bitsOf(h Head) (headBits, bool) {
	if !HeadOk(h) {
		return 0, false
	}
	return headBits(h.Src<<(2*fieldBits) | h.Dst<<fieldBits | h.Tag), true
}

func (b headBits) src() int {
	return int(b >> (2 * fieldBits) & FieldMax)
}

func (b headBits) dst() int {
	return int(b >> fieldBits & FieldMax)
}

func (b headBits) tag() int {
	return int(b & FieldMax)
}

func (b headBits) withTag(tag int) headBits {
	return b&^FieldMax | headBits(tag)
}

func (b headBits) head() Head {
	return Head{Src: b.src(), Dst: b.dst(), Tag: b.tag()}
}

func (b headBits) text() string {
	return strconv.Itoa(b.src()) + "." + strconv.Itoa(b.dst()) + "." + strconv.Itoa(b.tag())
}

func fieldOk(value int) bool {
	return value >= 0 && value <= FieldMax
}

// HeadOk says whether a head is ok.
func HeadOk(h Head) bool {
	return fieldOk(h.Src) && fieldOk(h.Dst) && fieldOk(h.Tag)
}

// HeadNum is the number of a head, from 0 on; -1, if the head is not ok.
func HeadNum(h Head) int {
	b, ok := bitsOf(h)
	if !ok {
		return -1
	}
	return int(b)
}

// HeadOf is the head of a number.
func HeadOf(n int) (Head, bool) {
	if n < 0 || n >= headCount {
		return Head{}, false
	}
	return headBits(n).head(), true
}

// HeadText is the text of a head; empty, if the head is not ok.
func HeadText(h Head) string {
	b, ok := bitsOf(h)
	if !ok {
		return ""
	}
	return b.text()
}

// HeadRead is the head of a text.
func HeadRead(text string) (Head, bool) {
	if len(text) != len("0.0.0") || text[1] != '.' || text[3] != '.' {
		return Head{}, false
	}
	// A byte that is no digit gives a field beyond, so HeadOk rejects it with the digits that are too great.
	h := Head{Src: int(text[0]) - '0', Dst: int(text[2]) - '0', Tag: int(text[4]) - '0'}
	if !HeadOk(h) {
		return Head{}, false
	}
	return h, true
}

// HeadTag is a head with another tag.
func HeadTag(h Head, tag int) (Head, bool) {
	b, ok := bitsOf(h)
	if !ok || !fieldOk(tag) {
		return Head{}, false
	}
	return b.withTag(tag).head(), true
}
