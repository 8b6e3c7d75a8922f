package crc_test

import (
	"bytes"
	"hash/crc32"
	"math"
	"math/bits"
	"slices"
	"testing"

	"fettle/crc"
)

// The signatures that the document lists.
var (
	_ func(...[]byte) uint32      = crc.Sum
	_ func(uint32, []byte) uint32 = crc.More
	_ func([]byte, int) uint32    = crc.Over
)

// text: so many bytes without a pattern.
func text(seed uint32, length int) []byte {
	b := make([]byte, length)
	for i := range b {
		seed = seed*1664525 + 1013904223
		b[i] = byte(seed >> 24)
	}
	return b
}

// plain is the sum by the chapter's words, over a list of bits rather than a number.
func plain(b []byte) uint32 {
	var state [32]bool
	for i := range state {
		state[i] = true
	}
	for _, c := range b {
		for i := range 8 {
			state[i] = state[i] != (c>>i&1 == 1)
		}
		for range 8 {
			fell := state[0]
			copy(state[:], state[1:])
			state[31] = false
			for i := range state {
				state[i] = state[i] != (fell && crc.Poly>>i&1 == 1)
			}
		}
	}
	sum := uint32(0)
	for i := range state {
		if !state[i] {
			sum |= 1 << i
		}
	}
	return sum
}

func TestExamples(t *testing.T) {
	if crc.Poly != 0xEDB88320 {
		t.Error("Poly")
	}
	if s := crc.Sum([]byte("123456789")); s != 0xCBF43926 {
		t.Errorf("Sum of 123456789: %X", s)
	}
	if crc.Sum() != 0 || crc.Sum(nil) != 0 || crc.Sum([]byte{}, nil, []byte{}) != 0 {
		t.Error("Sum of nothing isn't 0")
	}
}

func TestSum(t *testing.T) {
	for length := range 300 {
		for seed := range uint32(4) {
			b := text(seed, length)
			if s := crc.Sum(b); s != plain(b) || s != crc32.ChecksumIEEE(b) {
				t.Errorf("Sum of %d bytes: %X, want %X", length, s, plain(b))
			}
		}
	}
	for _, b := range [][]byte{make([]byte, 512), bytes.Repeat([]byte{0xFF}, 512), text(9, 1<<20)} {
		if s := crc.Sum(b); s != crc32.ChecksumIEEE(b) {
			t.Errorf("Sum of %d bytes: %X", len(b), s)
		}
	}
	for c := range 256 {
		if b := []byte{byte(c)}; crc.Sum(b) != plain(b) {
			t.Errorf("Sum of the byte %d: %X, want %X", c, crc.Sum(b), plain(b))
		}
	}
}

// The last example of the whole document: the sum of a sector of noughts.
func TestSumOfNoughts(t *testing.T) {
	if s := crc.Sum(make([]byte, 512)); s != 2997515640 {
		t.Error("Sum of 512 noughts:", s)
	}
}

func TestSumOfParts(t *testing.T) {
	b := text(1, 30)
	want := crc.Sum(b)
	for i := range len(b) + 1 {
		for j := i; j <= len(b); j++ {
			if s := crc.Sum(b[:i], b[i:j], nil, b[j:]); s != want {
				t.Errorf("Sum parted at %d and %d: %X, want %X", i, j, s, want)
			}
		}
	}
	if crc.Sum(b[:10], b[10:]) == crc.Sum(b[10:], b[:10]) {
		t.Error("Sum of parts the other way round is the same")
	}
	var ones [][]byte
	for i := range b {
		ones = append(ones, b[i:i+1], []byte{})
	}
	if s := crc.Sum(ones...); s != want {
		t.Errorf("Sum byte by byte: %X, want %X", s, want)
	}
}

func TestMore(t *testing.T) {
	b := text(2, 60)
	for i := range len(b) + 1 {
		if s := crc.More(crc.Sum(b[:i]), b[i:]); s != crc.Sum(b) {
			t.Errorf("More from %d on: %X, want %X", i, s, crc.Sum(b))
		}
	}
	for _, sum := range []uint32{0, 1, 0x80000000, 0xCBF43926, math.MaxUint32} {
		if crc.More(sum, nil) != sum || crc.More(sum, []byte{}) != sum {
			t.Errorf("More of %X and nothing is another sum", sum)
		}
		if s := crc.More(sum, b); s != crc32.Update(sum, crc32.IEEETable, b) {
			t.Errorf("More of %X: %X", sum, s)
		}
	}
}

func TestOver(t *testing.T) {
	for length := range 20 {
		b := text(3, length)
		for at := -10; at <= length+10; at++ {
			c := slices.Clone(b)
			for i := range c {
				if i >= at && i < at+4 {
					c[i] = 0
				}
			}
			if s := crc.Over(b, at); s != plain(c) {
				t.Errorf("Over of %d bytes at %d: %X, want %X", length, at, s, plain(c))
			}
		}
		for _, at := range []int{math.MinInt, math.MinInt + 3, math.MinInt + 4, math.MinInt32, math.MaxInt32, math.MaxInt - 4, math.MaxInt - 3, math.MaxInt} {
			if s := crc.Over(b, at); s != plain(b) {
				t.Errorf("Over of %d bytes at %d: %X, want %X", length, at, s, plain(b))
			}
		}
	}
	if crc.Over(nil, 0) != 0 || crc.Over([]byte{}, 0) != 0 || crc.Over(nil, -1) != 0 || crc.Over(nil, math.MaxInt) != 0 {
		t.Error("Over of nothing isn't 0")
	}
}

// Whatever stands in the four bytes, the sum is one; another byte makes another.
func TestOverTakesThoseBytesAlone(t *testing.T) {
	b := text(4, 16)
	want := crc.Over(b, 6)
	for i := range b {
		c := slices.Clone(b)
		c[i] ^= 0x5A
		if same := crc.Over(c, 6) == want; same != (i >= 6 && i < 10) {
			t.Errorf("Over at 6, byte %d changed: the same is %t", i, same)
		}
	}
}

// P2.2: equally long texts, changed by one another.
func TestSumsGoTogether(t *testing.T) {
	for length := range 100 {
		for seed := range uint32(5) {
			a, b, c := text(seed, length), text(seed+50, length), text(seed+100, length)
			all := make([]byte, length)
			for i := range all {
				all[i] = a[i] ^ b[i] ^ c[i]
			}
			if s, want := crc.Sum(all), crc.Sum(a)^crc.Sum(b)^crc.Sum(c); s != want {
				t.Errorf("texts of %d bytes: %X, want %X", length, s, want)
			}
		}
	}
}

// P2.2: one byte that is turned, in any way.
func TestOneByteTurnsTheSum(t *testing.T) {
	b := text(6, 64)
	want := crc.Sum(b)
	for i := range b {
		for turn := 1; turn < 256; turn++ {
			b[i] ^= byte(turn)
			if crc.Sum(b) == want {
				t.Errorf("byte %d turned by %x: the same sum", i, turn)
			}
			b[i] ^= byte(turn)
		}
	}
}

// turnBits changes bits from a place on, the lowest bit of a byte first.
func turnBits(b []byte, at int, pattern uint32) {
	for pattern != 0 {
		i := bits.TrailingZeros32(pattern)
		b[(at+i)/8] ^= 1 << ((at + i) % 8)
		pattern &= pattern - 1
	}
}

// P2.2: a row of up to 32 bits: all of them turned, its ends alone, and others between.
func TestRowOfBitsTurnsTheSum(t *testing.T) {
	b := text(7, 24)
	want := crc.Sum(b)
	for row := 1; row <= 32; row++ {
		ends := uint32(1) | uint32(1)<<(row-1)
		full := uint32(math.MaxUint32) >> (32 - row)
		for at := 0; at+row <= 8*len(b); at++ {
			for _, middle := range []uint32{0, math.MaxUint32, 0x55555555, 0x33333333, crc.Poly, bits.Reverse32(crc.Poly)} {
				pattern := ends | middle&full
				turnBits(b, at, pattern)
				if crc.Sum(b) == want {
					t.Errorf("bits %x from %d on: the same sum", pattern, at)
				}
				turnBits(b, at, pattern)
			}
		}
	}
}

// Rule 4: what is handed in isn't changed, its spare room neither.
func TestNothingIsChanged(t *testing.T) {
	whole := text(8, 40)
	ahead := slices.Clone(whole)
	b := whole[8:24]
	crc.Sum(b, b[:3], b[:0])
	crc.More(5, b)
	for at := -5; at < 22; at++ {
		crc.Over(b, at)
	}
	if !bytes.Equal(whole, ahead) {
		t.Errorf("% x, was % x", whole, ahead)
	}
}

// Rule 5: the same question has the same answer, whatever was asked between.
func TestSameAgain(t *testing.T) {
	b := text(10, 33)
	sum, more, over := crc.Sum(b), crc.More(7, b), crc.Over(b, 9)
	crc.Sum(text(11, 50))
	if crc.Sum(b) != sum || crc.More(7, b) != more || crc.Over(b, 9) != over {
		t.Error("another answer")
	}
}
