package mbr_test

import (
	"bytes"
	"encoding/binary"
	"math"
	"math/rand"
	"slices"
	"testing"

	"fettle/api"
	"fettle/mbr"
)

// entriesByWords: what Entries must answer.
func entriesByWords(b []byte) (l []mbr.Entry, e api.Errno) {
	if len(b) != 512 {
		return nil, api.ErrRange
	}
	if b[510] != 0x55 || b[511] != 0xAA {
		return nil, api.ErrMagic
	}
	for at := 446; at < 510; at += 16 {
		x := mbr.Entry{Type: int(b[at+4]), First: int64(binary.LittleEndian.Uint32(b[at+8:])), Count: int64(binary.LittleEndian.Uint32(b[at+12:]))}
		if b[at]&0x7F != 0 || (x.Type == 0) != (x.Count == 0) {
			return nil, api.ErrForm
		}
		l = append(l, x)
	}
	return l, api.OK
}

// read: Entries' answer, held against the plain one.
func read(t *testing.T, what string, b []byte) []mbr.Entry {
	t.Helper()
	want, e := entriesByWords(b)
	ahead := bytes.Clone(b)
	l, got := mbr.Entries(b)
	if got != e || !slices.Equal(l, want) {
		t.Fatalf("%s: Entries: %v %d, not %v %d", what, l, got, want, e)
	}
	if !bytes.Equal(b, ahead) {
		t.Fatalf("%s: what was handed in is changed", what)
	}
	return l
}

// full is a sector with four entries, all other bytes any.
func full() []byte {
	b := pattern(512, 1)
	lay(b, 0, mbr.Entry{Type: 12, First: 8, Count: 40}, mbr.Entry{Type: 5, First: 1 << 31, Count: math.MaxUint32}, mbr.Entry{}, mbr.Entry{Type: 255, First: 0, Count: 1})
	b[446+16] = 0x80
	b[446+32] = 0x80
	b[446+40] = 7 // an entry that is Empty may name a first sector
	return b
}

func TestEntriesAreRead(t *testing.T) {
	l := read(t, "full", full())
	want := []mbr.Entry{{Type: 12, First: 8, Count: 40}, {Type: 5, First: 1 << 31, Count: math.MaxUint32}, {First: 7}, {Type: 255, First: 0, Count: 1}}
	if !slices.Equal(l, want) {
		t.Error(l)
	}
	bare := make([]byte, 512)
	bare[510], bare[511] = 0x55, 0xAA
	if l := read(t, "no entry", bare); !slices.Equal(l, make([]mbr.Entry, 4)) {
		t.Error(l)
	}
}

func TestEntriesOfAnyLength(t *testing.T) {
	long := append(full(), full()...)
	for n := range len(long) + 1 {
		l, e := mbr.Entries(long[:n])
		if (e == api.OK) != (n == 512) || n != 512 && (e != api.ErrRange || len(l) != 0) {
			t.Errorf("%d bytes: %v %d", n, l, e)
		}
	}
	if _, e := mbr.Entries(nil); e != api.ErrRange {
		t.Error("nil", e)
	}
}

func TestEntriesEveryByte(t *testing.T) {
	for at := range 512 {
		for v := range 256 {
			b := full()
			b[at] = byte(v)
			read(t, "a byte", b)
		}
	}
}

// Where the errors stand in the order: the sign ahead of all entries.
func TestEntriesFirstError(t *testing.T) {
	b := full()
	b[446], b[511] = 1, 0
	if _, e := mbr.Entries(b); e != api.ErrMagic {
		t.Error(e)
	}
	if _, e := mbr.Entries(b[:511]); e != api.ErrRange {
		t.Error(e)
	}
	for i := range 4 {
		for name, spoil := range map[string]func(x []byte){
			"mark": func(x []byte) { x[0] = 0x81 },
			"type": func(x []byte) { x[4], x[12] = 0, 1 },
			"none": func(x []byte) { x[4] = 1; copy(x[12:16], make([]byte, 4)) },
		} {
			b := full()
			spoil(b[446+16*i:])
			if l, e := mbr.Entries(b); e != api.ErrForm || len(l) != 0 {
				t.Error(i, name, l, e)
			}
			read(t, name, b)
		}
	}
}

func TestPutWritesItsBytesAlone(t *testing.T) {
	r := rand.New(rand.NewSource(5))
	for round := range 2000 {
		room := pattern(600, int64(round))
		want := bytes.Clone(room)
		i := r.Intn(4)
		x := mbr.Entry{Type: r.Intn(256), First: r.Int63n(1 << 32), Count: r.Int63n(1 << 32)}
		want[446+16*i+4] = byte(x.Type)
		binary.LittleEndian.PutUint32(want[446+16*i+8:], uint32(x.First))
		binary.LittleEndian.PutUint32(want[446+16*i+12:], uint32(x.Count))
		if e := mbr.Put(room[:512], i, x); e != api.OK || !bytes.Equal(room, want) {
			t.Fatal(round, i, x, e)
		}
	}
}

// Put asks for no sign, and lets stand what Entries doesn't take.
func TestPutWhatIsReadOrNot(t *testing.T) {
	b := make([]byte, 512)
	ok(t, mbr.Put(b, 3, mbr.Entry{Type: 7, First: 3, Count: 9}))
	if _, e := mbr.Entries(b); e != api.ErrMagic {
		t.Error(e)
	}
	b[510], b[511] = 0x55, 0xAA
	if l := read(t, "put", b); l[3] != (mbr.Entry{Type: 7, First: 3, Count: 9}) {
		t.Error(l)
	}
	ok(t, mbr.Put(b, 0, mbr.Entry{Type: 0, First: 3, Count: 9}))
	if _, e := mbr.Entries(b); e != api.ErrForm {
		t.Error(e)
	}
	ok(t, mbr.Put(b, 0, mbr.Entry{Type: 6}))
	if _, e := mbr.Entries(b); e != api.ErrForm {
		t.Error(e)
	}
	ok(t, mbr.Put(b, 0, mbr.Entry{}))
	read(t, "empty again", b)
}

func TestPutErrors(t *testing.T) {
	good := mbr.Entry{Type: 12, First: 8, Count: 40}
	try := func(what string, b []byte, i int, x mbr.Entry, want api.Errno) {
		t.Helper()
		ahead := bytes.Clone(b)
		if e := mbr.Put(b, i, x); e != want {
			t.Errorf("%s: %d, not %d", what, e, want)
		}
		if want != api.OK && !bytes.Equal(b, ahead) {
			t.Errorf("%s: written", what)
		}
	}
	for _, n := range []int{0, 1, 446, 511, 513, 1024} {
		try("length", make([]byte, n), 0, good, api.ErrRange)
	}
	try("nil", nil, 0, good, api.ErrRange)
	for _, i := range []int{math.MinInt, -1, 4, 5, math.MaxInt} {
		try("entry", full(), i, good, api.ErrRange)
		try("entry and number", full(), i, mbr.Entry{Type: 256}, api.ErrRange)
	}
	for i := range 4 {
		for _, x := range wrongEntries() {
			try("number", full(), i, x, api.ErrLimit)
		}
		for _, x := range edgeEntries() {
			try("edge", full(), i, x, api.OK)
		}
	}
}

// wrongEntries: each has one number that doesn't fit.
func wrongEntries() []mbr.Entry {
	return []mbr.Entry{
		{Type: -1, First: 1, Count: 1}, {Type: 256, First: 1, Count: 1}, {Type: math.MinInt, First: 1, Count: 1}, {Type: math.MaxInt, First: 1, Count: 1},
		{Type: 1, First: -1, Count: 1}, {Type: 1, First: 1 << 32, Count: 1}, {Type: 1, First: math.MinInt64, Count: 1}, {Type: 1, First: math.MaxInt64, Count: 1},
		{Type: 1, First: 1, Count: -1}, {Type: 1, First: 1, Count: 1 << 32}, {Type: 1, First: 1, Count: math.MinInt64}, {Type: 1, First: 1, Count: math.MaxInt64},
	}
}

func edgeEntries() []mbr.Entry {
	return []mbr.Entry{{}, {Type: 255, First: math.MaxUint32, Count: math.MaxUint32}, {Type: 255}, {First: math.MaxUint32}, {Count: math.MaxUint32}}
}

func TestMake(t *testing.T) {
	r := rand.New(rand.NewSource(9))
	for n := range 5 {
		for range 300 {
			var l []mbr.Entry
			for range n {
				x := mbr.Entry{Type: r.Intn(256), First: r.Int63n(1 << 32), Count: r.Int63n(1<<32-1) + 1}
				if x.Type == mbr.Empty {
					x.Count = 0
				}
				l = append(l, x)
			}
			given := slices.Clone(l)
			b, e := mbr.Make(l...)
			ok(t, e)
			want := make([]byte, 512)
			lay(want, 0, l...)
			if !bytes.Equal(b, want) || !slices.Equal(l, given) {
				t.Fatal(n, l)
			}
			if got := read(t, "made", b); !slices.Equal(got[:n], l) || !slices.Equal(got[n:], make([]mbr.Entry, 4-n)) {
				t.Fatal(got, l)
			}
		}
	}
}

func TestMakeErrors(t *testing.T) {
	for n := 5; n < 9; n++ {
		l := make([]mbr.Entry, n)
		if b, e := mbr.Make(l...); e != api.ErrBig || len(b) != 0 {
			t.Error(n, e)
		}
		l[0].Type = 256 // more than four comes first
		if b, e := mbr.Make(l...); e != api.ErrBig || len(b) != 0 {
			t.Error(n, e)
		}
	}
	for i := range 4 {
		for _, x := range wrongEntries() {
			l := make([]mbr.Entry, i+1)
			l[i] = x
			if b, e := mbr.Make(l...); e != api.ErrLimit || len(b) != 0 {
				t.Error(i, x, e)
			}
		}
	}
	one, _ := mbr.Make()
	two, _ := mbr.Make()
	one[0] = 1
	if two[0] != 0 {
		t.Error("two answers share their memory")
	}
}
