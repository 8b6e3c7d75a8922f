// Package crc is layer 2: see shared/doc/02-crc.md.
package crc

// Poly is what the sum is reckoned with.
const Poly = 0xEDB88320

// hole is how many bytes Over takes as 0: those of a sum.
const hole = 4

// More: the sum of bytes and others behind them, that of the first being known.
func More(sum uint32, b []byte) uint32 {
	state := ^sum
	for _, c := range b {
		state ^= uint32(c)
		for range 8 {
			fell := state & 1
			state = state>>1 ^ fell*Poly
		}
	}
	return ^state
}

// Sum: the sum of parts, one behind the other.
func Sum(parts ...[]byte) uint32 {
	sum := uint32(0)
	for _, p := range parts {
		sum = More(sum, p)
	}
	return sum
}

// Over: the sum of bytes, four of them at a place counting as 0 (those that are there).
func Over(b []byte, at int) uint32 {
	var noughts [hole]byte
	from, to := gap(at, len(b))
	return Sum(b[:from], noughts[:to-from], b[to:])
}

// gap: which of so many bytes are among the four from a place on. Places that
// reach none of them are told first, as the greatest one would wrap round.
func gap(at, length int) (from, to int) {
	if at <= -hole || at >= length {
		return 0, 0
	}
	return max(at, 0), min(at+hole, length)
}
