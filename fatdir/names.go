package fatdir

import (
	"bytes"
	"slices"
	"unicode/utf8"

	"fettle/octet"
)

// A short name: so many bytes in all, of which so many stand ahead of its point.
const (
	shortSize = 11
	stemSize  = 8
)

// escaped stands for the first byte that would say that a row is deleted.
const escaped = 5

// A part of a long name: what its first byte says, how many parts there may be, where the short name's sum stands.
const (
	numberMask = 0x3F
	lastBit    = 0x40
	mostParts  = 20
	sumAt      = 13
)

// Letters of two bytes: from high on the first halves of those that are two, from
// low on the second halves, up to behind.
const (
	letterSize = 2
	high       = 0xD800
	low        = 0xDC00
	behind     = 0xE000
	halfBits   = 10
	above      = 0x10000 // the first of the letters that are two
)

// places are where a part's letters stand, and how many.
var places = [...]struct{ at, count int }{
	{1, 5},
	{14, 6},
	{28, 2},
}

// long is what the parts ahead make of a long name: the number (0: there is none) and
// the sum of the one that came last, and the letters from there on.
type long struct {
	number  int
	sum     byte
	letters []uint16
}

// short: a row's short name.
func short(row []byte) string {
	name := slices.Clone(row[:shortSize])
	if name[0] == escaped {
		name[0] = deleted
	}
	stem, end := bytes.TrimRight(name[:stemSize], " "), bytes.TrimRight(name[stemSize:], " ")
	if len(end) == 0 {
		return string(stem)
	}
	return string(stem) + "." + string(end)
}

// sum: the sum by which parts know the row that they belong to. It is one of the
// bytes as they stand there.
func sum(row []byte) byte {
	n := byte(0)
	for _, c := range row[:shortSize] {
		n = n<<7 | n>>1
		n += c
	}
	return n
}

// with: what is known of a long name when one more part is met.
func (l long) with(part []byte) long {
	number := int(part[0] & numberMask)
	next := long{number: number, sum: part[sumAt], letters: letters(part)}
	switch {
	case number < 1 || number > mostParts:
		return long{}
	case part[0]&lastBit != 0:
		return next
	case number != l.number-1 || next.sum != l.sum:
		return long{}
	}
	next.letters = append(next.letters, l.letters...) // the name's end came first
	return next
}

// fits: is it whole, and of that row?
func (l long) fits(row []byte) bool {
	return l.number == 1 && l.sum == sum(row)
}

// letters: those of a part.
func letters(part []byte) []uint16 {
	var list []uint16
	for _, p := range places {
		for i := range p.count {
			v, _ := octet.U16(part, p.at+i*letterSize)
			list = append(list, v)
		}
	}
	return list
}

// text: what letters spell, up to a 0.
func text(list []uint16) string {
	if end := slices.Index(list, 0); end >= 0 {
		list = list[:end]
	}
	var runes []rune
	for len(list) > 0 {
		r, n := spelt(list)
		runes = append(runes, r)
		list = list[n:]
	}
	return string(runes)
}

// spelt: the first rune that letters spell, and of how many of them it is.
func spelt(list []uint16) (rune, int) {
	r := rune(list[0])
	if r < high || r >= behind {
		return r, 1
	}
	if r >= low || len(list) < 2 || list[1] < low || list[1] >= behind {
		return utf8.RuneError, 1
	}
	return above + (r-high)<<halfBits + rune(list[1]) - low, 2
}
