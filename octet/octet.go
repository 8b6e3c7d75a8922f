// Package octet is layer 1: see shared/doc/01-octet.md.
package octet

import "math"

// most is how many bytes an answer has at most. The document promises nothing
// beyond it; without the bound a great size would run the memory out, and that
// can't be caught.
const most = math.MaxInt32

// number is what stands in bytes, the lowest first.
type number interface {
	uint16 | uint32 | uint64
}

// there: do n bytes stand from a place on? The place is held against 0 first, so
// that the difference can't wrap round.
func there(b []byte, at, n int) bool {
	return at >= 0 && n >= 0 && n <= len(b)-at
}

func read[N number](b []byte, at, size int) (N, bool) {
	if !there(b, at, size) {
		return 0, false
	}
	var v N
	for i := range size {
		v |= N(b[at+i]) << (8 * i)
	}
	return v, true
}

func write[N number](b []byte, at, size int, v N) bool {
	if !there(b, at, size) {
		return false
	}
	for i := range size {
		b[at+i] = byte(v >> (8 * i))
	}
	return true
}

// U16, U32, U64: the number at a place, its lowest byte first; false: there is none.
func U16(b []byte, at int) (uint16, bool) { return read[uint16](b, at, 2) }

func U32(b []byte, at int) (uint32, bool) { return read[uint32](b, at, 4) }

func U64(b []byte, at int) (uint64, bool) { return read[uint64](b, at, 8) }

// Put16, Put32, Put64: a number is written at a place; false: it isn't there, and nothing is written.
func Put16(b []byte, at int, v uint16) bool { return write(b, at, 2, v) }

func Put32(b []byte, at int, v uint32) bool { return write(b, at, 4, v) }

func Put64(b []byte, at int, v uint64) bool { return write(b, at, 8, v) }

// Slice: so many bytes at a place, as new memory; false: they aren't there.
func Slice(b []byte, at, n int) ([]byte, bool) {
	if !there(b, at, n) {
		return nil, false
	}
	out := make([]byte, n)
	copy(out, b[at:])
	return out, true
}

// Patch: bytes are put over others; false: they don't fit, and nothing is written.
func Patch(b []byte, at int, p []byte) bool {
	if !there(b, at, len(p)) {
		return false
	}
	copy(b[at:], p)
	return true
}

// Zero: are all bytes 0?
func Zero(b []byte) bool {
	for _, c := range b {
		if c != 0 {
			return false
		}
	}
	return true
}

// Join: parts, one behind the other; nothing, where they are more than an answer has.
func Join(parts ...[]byte) []byte {
	total := 0
	for _, p := range parts {
		if len(p) > most-total {
			return nil
		}
		total += len(p)
	}
	out := make([]byte, total)
	at := 0
	for _, p := range parts {
		at += copy(out[at:], p)
	}
	return out
}

// Pad: bytes, with noughts behind up to the next multiple of a size; a size below 2 asks for none.
func Pad(b []byte, size int) []byte {
	out := make([]byte, len(b)+lacking(len(b), size))
	copy(out, b)
	return out
}

// lacking: how many bytes a length lacks to the next multiple of a size; 0 as
// well, where that is more than an answer has.
func lacking(length, size int) int {
	if size < 2 || length%size == 0 {
		return 0
	}
	lack := size - length%size
	if lack > most-length {
		return 0
	}
	return lack
}

// Same: from the first byte on, how many are the same in both?
func Same(a, b []byte) int {
	short := min(len(a), len(b))
	for i := range short {
		if a[i] != b[i] {
			return i
		}
	}
	return short
}
