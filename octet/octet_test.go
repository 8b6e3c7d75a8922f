package octet_test

import (
	"bytes"
	"encoding/binary"
	"math"
	"slices"
	"testing"

	"fettle/octet"
)

// The signatures that the document lists.
var (
	_ func([]byte, int) (uint16, bool)      = octet.U16
	_ func([]byte, int) (uint32, bool)      = octet.U32
	_ func([]byte, int) (uint64, bool)      = octet.U64
	_ func([]byte, int, uint16) bool        = octet.Put16
	_ func([]byte, int, uint32) bool        = octet.Put32
	_ func([]byte, int, uint64) bool        = octet.Put64
	_ func([]byte, int, int) ([]byte, bool) = octet.Slice
	_ func([]byte, int, []byte) bool        = octet.Patch
	_ func([]byte) bool                     = octet.Zero
	_ func(...[]byte) []byte                = octet.Join
	_ func([]byte, int) []byte              = octet.Pad
	_ func([]byte, []byte) int              = octet.Same
)

// width is a size of numbers, its calls brought to one form.
type width struct {
	size int
	get  func(b []byte, at int) (uint64, bool)
	put  func(b []byte, at int, v uint64) bool
}

var widths = []width{
	{2,
		func(b []byte, at int) (uint64, bool) { v, ok := octet.U16(b, at); return uint64(v), ok },
		func(b []byte, at int, v uint64) bool { return octet.Put16(b, at, uint16(v)) }},
	{4,
		func(b []byte, at int) (uint64, bool) { v, ok := octet.U32(b, at); return uint64(v), ok },
		func(b []byte, at int, v uint64) bool { return octet.Put32(b, at, uint32(v)) }},
	{8, octet.U64, octet.Put64},
}

// extremes: the least and the greatest numbers, with which a sum or a difference would wrap round.
var extremes = []int{
	math.MinInt, math.MinInt + 1, math.MinInt + 2, math.MinInt + 8, math.MinInt32 - 1, math.MinInt32,
	math.MaxInt32, math.MaxInt32 + 1, math.MaxUint32, math.MaxUint32 + 1, math.MaxInt - 8, math.MaxInt - 2, math.MaxInt - 1, math.MaxInt,
}

// places: all around so many bytes, and the extremes.
func places(length int) []int {
	l := slices.Clone(extremes)
	for at := -10; at <= length+10; at++ {
		l = append(l, at)
	}
	return l
}

// there: the document's place, in numbers that are cut first and so can't wrap round.
func there(length, at, n int) bool {
	if at < 0 || at > length || n < 0 || n > length {
		return false
	}
	return at+n <= length
}

// guarded: so many bytes with others ahead of and behind them, all of which the spare room reaches.
func guarded(length int) (whole, part []byte) {
	whole = make([]byte, length+32)
	for i := range whole {
		whole[i] = byte(i*37 + 11)
	}
	return whole, whole[16 : 16+length]
}

// untouched tells whether a call left bytes alone, their spare room too.
func untouched(t *testing.T, name string, whole []byte, call func()) {
	t.Helper()
	ahead := slices.Clone(whole)
	call()
	if !bytes.Equal(whole, ahead) {
		t.Errorf("%s: what was handed in is changed: % x, was % x", name, whole, ahead)
	}
}

// spoil writes over an answer and its spare room.
func spoil(b []byte) {
	b = b[:cap(b)]
	for i := range b {
		b[i] ^= 0xFF
	}
}

func TestExamples(t *testing.T) {
	b := []byte{1, 2, 0, 0, 9}
	if v, ok := octet.U32(b, 0); v != 513 || !ok {
		t.Error("U32 at 0:", v, ok)
	}
	if v, ok := octet.U32(b, 2); v != 0 || ok {
		t.Error("U32 at 2:", v, ok)
	}
	if p := octet.Pad([]byte{1, 2, 3}, 4); !bytes.Equal(p, []byte{1, 2, 3, 0}) {
		t.Error("Pad:", p)
	}
}

func TestNumbersAtEveryPlace(t *testing.T) {
	for length := range 20 {
		whole, b := guarded(length)
		for _, w := range widths {
			for _, at := range places(length) {
				want, ok := uint64(0), there(length, at, w.size)
				if ok {
					var full [8]byte
					copy(full[:], b[at:at+w.size])
					want = binary.LittleEndian.Uint64(full[:])
				}
				untouched(t, "U", whole, func() {
					if v, got := w.get(b, at); v != want || got != ok {
						t.Errorf("U%d of %d bytes at %d: %d %t, want %d %t", 8*w.size, length, at, v, got, want, ok)
					}
				})
			}
		}
	}
}

func TestLowestByteFirst(t *testing.T) {
	b := []byte{0, 0x01, 0x23, 0x45, 0x67, 0x89, 0xAB, 0xCD, 0xEF}
	if v, ok := octet.U16(b, 1); v != 0x2301 || !ok {
		t.Errorf("U16: %x %t", v, ok)
	}
	if v, ok := octet.U32(b, 1); v != 0x67452301 || !ok {
		t.Errorf("U32: %x %t", v, ok)
	}
	if v, ok := octet.U64(b, 1); v != 0xEFCDAB8967452301 || !ok {
		t.Errorf("U64: %x %t", v, ok)
	}
}

// values: of all sizes; a call cuts them to its own.
func values() []uint64 {
	l := []uint64{0, 1, 0x0102030405060708, 0xF1E2D3C4B5A69788, math.MaxUint16, math.MaxUint32, math.MaxUint64}
	for i := range 64 {
		l = append(l, 1<<i)
	}
	return l
}

func TestPutIsRead(t *testing.T) {
	for _, w := range widths {
		mask := uint64(math.MaxUint64) >> (64 - 8*w.size)
		for _, v := range values() {
			for at := range 12 {
				_, b := guarded(20)
				if !w.put(b, at, v) {
					t.Fatalf("Put%d at %d of 20 bytes: false", 8*w.size, at)
				}
				if got, ok := w.get(b, at); got != v&mask || !ok {
					t.Errorf("Put%d, U%d at %d: %x %t, want %x", 8*w.size, 8*w.size, at, got, ok, v&mask)
				}
			}
		}
	}
}

func TestPutWritesThoseBytesAlone(t *testing.T) {
	const v = 0xF1E2D3C4B5A69788
	for length := range 20 {
		for _, w := range widths {
			for _, at := range places(length) {
				whole, b := guarded(length)
				want, ok := slices.Clone(whole), there(length, at, w.size)
				if ok {
					full := binary.LittleEndian.AppendUint64(nil, v)
					copy(want[16+at:], full[:w.size])
				}
				if got := w.put(b, at, v); got != ok {
					t.Errorf("Put%d into %d bytes at %d: %t", 8*w.size, length, at, got)
				}
				if !bytes.Equal(whole, want) {
					t.Errorf("Put%d into %d bytes at %d: % x, want % x", 8*w.size, length, at, whole, want)
				}
			}
		}
	}
}

func TestSlice(t *testing.T) {
	for length := range 12 {
		whole, b := guarded(length)
		for _, at := range places(length) {
			for _, n := range places(length) {
				ok := there(length, at, n)
				untouched(t, "Slice", whole, func() {
					got, there := octet.Slice(b, at, n)
					switch {
					case there != ok:
						t.Errorf("Slice of %d bytes, %d at %d: %t", length, n, at, there)
					case !ok && len(got) != 0:
						t.Errorf("Slice of %d bytes, %d at %d: false with % x", length, n, at, got)
					case ok && !bytes.Equal(got, b[at:at+n]):
						t.Errorf("Slice of %d bytes, %d at %d: % x", length, n, at, got)
					}
					spoil(got)
				})
			}
		}
	}
}

func TestPatch(t *testing.T) {
	for length := range 12 {
		for _, at := range places(length) {
			for n := range length + 3 {
				whole, b := guarded(length)
				p := bytes.Repeat([]byte{0xEE}, n+4)[:n]
				want, ok := slices.Clone(whole), there(length, at, n)
				if ok {
					copy(want[16+at:], p)
				}
				untouched(t, "Patch", p[:cap(p)], func() {
					if got := octet.Patch(b, at, p); got != ok {
						t.Errorf("Patch of %d bytes, %d at %d: %t", length, n, at, got)
					}
				})
				if !bytes.Equal(whole, want) {
					t.Errorf("Patch of %d bytes, %d at %d: % x, want % x", length, n, at, whole, want)
				}
			}
		}
	}
}

func TestPatchIsNotKept(t *testing.T) {
	b, p := make([]byte, 4), []byte{1, 2}
	if !octet.Patch(b, 1, p) {
		t.Fatal("Patch: false")
	}
	p[0] = 9
	if !bytes.Equal(b, []byte{0, 1, 2, 0}) {
		t.Error("Patch keeps what was handed in:", b)
	}
}

func TestPatchWithBytesOfItsOwn(t *testing.T) {
	up, down := []byte{1, 2, 3, 4, 5}, []byte{1, 2, 3, 4, 5}
	if !octet.Patch(up, 1, up[:4]) || !bytes.Equal(up, []byte{1, 1, 2, 3, 4}) {
		t.Error("Patch further on:", up)
	}
	if !octet.Patch(down, 0, down[1:]) || !bytes.Equal(down, []byte{2, 3, 4, 5, 5}) {
		t.Error("Patch further back:", down)
	}
}

func TestZero(t *testing.T) {
	if !octet.Zero(nil) || !octet.Zero([]byte{}) {
		t.Error("Zero of nothing: false")
	}
	for length := 1; length < 40; length++ {
		whole, b := guarded(length)
		clear(b)
		untouched(t, "Zero", whole, func() {
			if !octet.Zero(b) {
				t.Errorf("Zero of %d noughts: false", length)
			}
		})
		for i := range b {
			for _, c := range []byte{1, 0x80, 0xFF} {
				b[i] = c
				if octet.Zero(b) {
					t.Errorf("Zero of %d bytes, %x at %d: true", length, c, i)
				}
			}
			b[i] = 0
		}
	}
}

func TestJoin(t *testing.T) {
	cases := []struct {
		parts []string
		want  string
	}{
		{nil, ""},
		{[]string{""}, ""},
		{[]string{"", "", ""}, ""},
		{[]string{"a"}, "a"},
		{[]string{"ab", "", "c"}, "abc"},
		{[]string{"", "ab", "cde", "f", ""}, "abcdef"},
		{[]string{"same", "same"}, "samesame"},
	}
	for _, c := range cases {
		var parts [][]byte
		for _, s := range c.parts {
			parts = append(parts, []byte(s))
		}
		if got := octet.Join(parts...); string(got) != c.want {
			t.Errorf("Join %q: %q, want %q", c.parts, got, c.want)
		}
	}
	if got := octet.Join(nil, []byte("a"), nil, []byte{}, []byte("b")); string(got) != "ab" {
		t.Errorf("Join with nil and empty parts: %q", got)
	}
}

func TestJoinIsNewMemory(t *testing.T) {
	whole, b := guarded(6)
	for _, parts := range [][][]byte{{b}, {b, nil}, {nil, b}, {b[:2], b[2:]}, {b[:0]}} {
		list := slices.Clone(parts)
		untouched(t, "Join", whole, func() { spoil(octet.Join(parts...)) })
		for i := range parts {
			if !bytes.Equal(parts[i], list[i]) || len(parts[i]) > 0 && &parts[i][0] != &list[i][0] {
				t.Errorf("Join: part %d of the list is another one", i)
			}
		}
	}
}

// One part handed in so often that no memory could hold the answer: nothing is promised but an end without a panic.
func TestJoinBeyondAllBounds(t *testing.T) {
	parts := slices.Repeat([][]byte{make([]byte, 1<<24)}, 1<<20)
	if got := octet.Join(parts...); len(got) > math.MaxInt32 {
		t.Errorf("Join: %d bytes", len(got))
	}
}

func TestPad(t *testing.T) {
	for length := range 40 {
		whole, b := guarded(length)
		for size := -3; size < 45; size++ {
			want := slices.Clone(b)
			for size >= 2 && len(want)%size != 0 {
				want = append(want, 0)
			}
			untouched(t, "Pad", whole, func() {
				got := octet.Pad(b, size)
				if !bytes.Equal(got, want) {
					t.Errorf("Pad of %d bytes to %d: % x, want % x", length, size, got, want)
				}
				spoil(got)
			})
		}
	}
}

func TestPadToExtremes(t *testing.T) {
	for _, size := range extremes {
		for _, b := range [][]byte{nil, {}} {
			if got := octet.Pad(b, size); len(got) != 0 {
				t.Errorf("Pad of nothing to %d: %d bytes", size, len(got))
			}
		}
		if size > math.MaxInt32 {
			// The answer would be beyond what is promised: it ends, and loses nothing.
			if got := octet.Pad([]byte{7, 8}, size); !bytes.HasPrefix(got, []byte{7, 8}) {
				t.Errorf("Pad of 7, 8 to %d: % x", size, got)
			}
		}
		if size < 2 {
			if got := octet.Pad([]byte{7, 8}, size); !bytes.Equal(got, []byte{7, 8}) {
				t.Errorf("Pad of 7, 8 to %d: % x", size, got)
			}
		}
	}
}

func TestPadToGreatSizes(t *testing.T) {
	for _, size := range []int{1 << 16, 1<<20 + 1, 1 << 24} {
		got := octet.Pad([]byte{7, 8}, size)
		if len(got) != size || !bytes.HasPrefix(got, []byte{7, 8}) || !octet.Zero(got[2:]) {
			t.Errorf("Pad of 7, 8 to %d: %d bytes", size, len(got))
		}
	}
}

func TestSame(t *testing.T) {
	cases := []struct {
		a, b string
		want int
	}{
		{"", "", 0}, {"", "a", 0}, {"a", "", 0},
		{"a", "a", 1}, {"a", "b", 0}, {"abc", "abd", 2}, {"abc", "abc", 3},
		{"abc", "abcd", 3}, {"abcd", "abc", 3}, {"xbc", "abc", 0}, {"axc", "abc", 1},
		{"\x00\x00", "\x00\x00\x00", 2},
	}
	for _, c := range cases {
		a, b := []byte(c.a), []byte(c.b)
		if got := octet.Same(a, b); got != c.want {
			t.Errorf("Same %q, %q: %d, want %d", c.a, c.b, got, c.want)
		}
		if string(a) != c.a || string(b) != c.b {
			t.Errorf("Same %q, %q: what was handed in is changed", c.a, c.b)
		}
	}
	if octet.Same(nil, nil) != 0 || octet.Same(nil, []byte("a")) != 0 || octet.Same([]byte("a"), nil) != 0 {
		t.Error("Same with nil")
	}
}

// What stands behind an end, in the spare room, isn't there.
func TestSameEndsAheadOfTheSpareRoom(t *testing.T) {
	whole := []byte("abcdef")
	if got := octet.Same(whole[:2], whole); got != 2 {
		t.Error("Same of a part and the whole:", got)
	}
	if got := octet.Same(whole, whole[:2]); got != 2 {
		t.Error("Same of the whole and a part:", got)
	}
}

// Rule 3: nil and empty lists are one.
func TestNilAndEmptyAreOne(t *testing.T) {
	for _, b := range [][]byte{nil, {}, make([]byte, 0, 16)} {
		for _, w := range widths {
			if v, ok := w.get(b, 0); v != 0 || ok {
				t.Error("U of nothing:", v, ok)
			}
			if w.put(b, 0, 1) {
				t.Error("Put into nothing: true")
			}
		}
		if got, ok := octet.Slice(b, 0, 0); len(got) != 0 || !ok {
			t.Error("Slice of nothing:", got, ok)
		}
		if got, ok := octet.Slice(b, 0, 1); len(got) != 0 || ok {
			t.Error("Slice of nothing, one byte:", got, ok)
		}
		if octet.Patch(b, 0, []byte{1}) || !octet.Patch(b, 0, b) || octet.Patch(b, 1, b) || octet.Patch(b, -1, b) {
			t.Error("Patch of nothing")
		}
		if !octet.Patch([]byte{1}, 0, b) || !octet.Patch([]byte{1}, 1, b) || octet.Patch([]byte{1}, 2, b) || octet.Patch([]byte{1}, -1, b) {
			t.Error("Patch with nothing")
		}
		if len(octet.Pad(b, 4)) != 0 || len(octet.Join(b)) != 0 || len(octet.Join(b, b)) != 0 {
			t.Error("Pad, Join of nothing")
		}
	}
}
