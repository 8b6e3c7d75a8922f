package ext_test

import (
	"bytes"
	"math"
	"math/rand"
	"slices"
	"testing"

	"fettle/api"
	"fettle/ext"
)

// extremes: numbers at the ends, where sums and products wrap round.
var extremes = []int64{math.MinInt64, math.MinInt64 + 1, -1 << 32, -1, 0, 1, 2, 7, 8, 63, 64, 1 << 32, math.MaxInt64 - 1, math.MaxInt64}

func TestGroups(t *testing.T) {
	for _, c := range []struct{ blocks, per, want int64 }{
		{-5, 64, 1}, {0, 64, 1}, {1, 64, 1}, {2, 64, 1}, {64, 64, 1}, {65, 64, 1}, {66, 64, 2}, {128, 64, 2}, {129, 64, 2}, {130, 64, 3},
		{16384, 8192, 2}, {16385, 8192, 2}, {16386, 8192, 3}, {8, 1, 7}, {8, 0, 7}, {8, -3, 7}, {2, 0, 1},
		{math.MaxInt64, 1, math.MaxInt64 - 1}, {math.MaxInt64, math.MaxInt64, 1}, {math.MinInt64, math.MinInt64, 1}, {math.MaxInt64, 2, math.MaxInt64 / 2},
	} {
		if got := (ext.Super{Blocks: c.blocks, Per: c.per}).Groups(); got != c.want {
			t.Errorf("%d blocks, %d each: %d groups, not %d", c.blocks, c.per, got, c.want)
		}
	}
	for per := int64(-1); per < 20; per++ {
		for blocks := int64(-3); blocks < 90; blocks++ {
			s := ext.Super{Blocks: blocks, Per: per, Each: 8 * per}
			l := groups(blocks, max(per, 1))
			if s.Groups() != int64(len(l)) {
				t.Fatalf("%d blocks, %d each: %d groups, not %d", blocks, per, s.Groups(), len(l))
			}
			for g, x := range l {
				if from, to := s.Group(int64(g)); from != x.from || to != x.to {
					t.Fatalf("%d blocks, %d each: group %d: %d %d, not %v", blocks, per, g, from, to, x)
				}
			}
		}
	}
	for _, per := range extremes {
		for _, blocks := range extremes {
			s := ext.Super{Blocks: blocks, Per: per, Inodes: blocks, Each: per}
			if s.Groups() < 1 {
				t.Error(s)
			}
			for _, g := range extremes {
				s.Group(g)
			}
			s.Table()
			s.Check()
		}
	}
}

func TestTable(t *testing.T) {
	for each, want := range map[int64]int64{0: 0, 8: 1, 16: 2, 24: 3, 1000: 125, 8192: 1024} {
		if got := (ext.Super{Each: each}).Table(); got != want {
			t.Errorf("of %d inodes: %d, not %d", each, got, want)
		}
	}
}

// right: a super that may be.
func right() ext.Super {
	return ext.Super{Inodes: 3 * 24, Blocks: 150, FreeBlocks: 20, FreeInodes: 30, Per: 64, Each: 24, First: 11, Types: true}
}

// TestCheck: each edge that the chapter names, and one beyond.
func TestCheck(t *testing.T) {
	for i, c := range []struct {
		s    ext.Super
		want api.Errno
	}{
		{right(), api.OK},
		{ext.Super{}, api.ErrForm},
		{ext.Super{Inodes: 8, Blocks: 8, Per: 64, Each: 8, First: 3}, api.OK},
		{ext.Super{Inodes: 8, Blocks: 7, Per: 64, Each: 8, First: 3}, api.ErrForm},
		{ext.Super{Inodes: 8, Blocks: 8, Per: 63, Each: 8, First: 3}, api.ErrForm},
		{ext.Super{Inodes: 8, Blocks: 8, Per: 56, Each: 8, First: 3}, api.ErrForm},
		{ext.Super{Inodes: 8, Blocks: 8, Per: 68, Each: 8, First: 3}, api.ErrForm},
		{ext.Super{Inodes: 8, Blocks: 8, Per: 72, Each: 8, First: 3}, api.OK},
		{ext.Super{Inodes: 8, Blocks: 8, Per: 8192, Each: 8, First: 3}, api.OK},
		{ext.Super{Inodes: 8, Blocks: 8, Per: 8193, Each: 8, First: 3}, api.ErrForm},
		{ext.Super{Inodes: 8, Blocks: 8, Per: 8200, Each: 8, First: 3}, api.ErrForm},
		{ext.Super{Inodes: 0, Blocks: 8, Per: 64, Each: 0, First: 3}, api.ErrForm},
		{ext.Super{Inodes: 7, Blocks: 8, Per: 64, Each: 7, First: 3}, api.ErrForm},
		{ext.Super{Inodes: 12, Blocks: 8, Per: 64, Each: 12, First: 3}, api.ErrForm},
		{ext.Super{Inodes: 8192, Blocks: 8, Per: 2048, Each: 8192, First: 3}, api.OK},
		{ext.Super{Inodes: 8200, Blocks: 8, Per: 2048, Each: 8200, First: 3}, api.ErrForm},
		{ext.Super{Inodes: 16, Blocks: 16384, Per: 8192, Each: 8, First: 3}, api.OK},
		{ext.Super{Inodes: 16, Blocks: 16385, Per: 8192, Each: 8, First: 3}, api.ErrForm},
		{ext.Super{Inodes: 8 * 32, Blocks: 1 + 32*64, Per: 64, Each: 8, First: 3}, api.OK},
		{ext.Super{Inodes: 8 * 33, Blocks: 2 + 32*64, Per: 64, Each: 8, First: 3}, api.ErrLimit},
		{ext.Super{Inodes: 8 * 33, Blocks: 1 + 33*64, Per: 64, Each: 8, First: 3}, api.ErrLimit},
		{ext.Super{Inodes: 8 * 256, Blocks: 16384, Per: 64, Each: 8, First: 3}, api.ErrLimit},
		{ext.Super{Inodes: 8 * 32, Blocks: 16384, Per: 512, Each: 8, First: 3}, api.OK},
		{ext.Super{Inodes: 8 * 33, Blocks: 16384, Per: 504, Each: 8, First: 3}, api.ErrLimit},
		{ext.Super{Inodes: 8 * 59, Blocks: 8, Per: 64, Each: 8 * 59, First: 3}, api.OK},
		{ext.Super{Inodes: 8 * 60, Blocks: 8, Per: 64, Each: 8 * 60, First: 3}, api.ErrForm},
		{ext.Super{Inodes: 8 * 59, Blocks: 2 + 32*64, Per: 64, Each: 8 * 60, First: 3}, api.ErrLimit}, // ahead of the rest
		{ext.Super{Inodes: 8 * 59, Blocks: 2 + 32*64, Per: 64, Each: 9, First: 3}, api.ErrForm},       // ahead of the limit
	} {
		if got := c.s.Check(); got != c.want || checkByWords(c.s) != c.want {
			t.Errorf("%d: %+v: %d, not %d", i, c.s, got, c.want)
		}
	}
	one := func(set func(s *ext.Super, v int64), values map[int64]api.Errno) {
		t.Helper()
		for v, want := range values {
			s := right()
			set(&s, v)
			if got := s.Check(); got != want {
				t.Errorf("%+v: %d, not %d", s, got, want)
			}
		}
	}
	one(func(s *ext.Super, v int64) { s.Inodes = v }, map[int64]api.Errno{72: api.OK, 71: api.ErrForm, 73: api.ErrForm, 48: api.ErrForm, 96: api.ErrForm, 0: api.ErrForm, -72: api.ErrForm})
	one(func(s *ext.Super, v int64) { s.First = v }, map[int64]api.Errno{3: api.OK, 24: api.OK, 2: api.ErrForm, 25: api.ErrForm, 0: api.ErrForm, -1: api.ErrForm})
	one(func(s *ext.Super, v int64) { s.FreeBlocks = v }, map[int64]api.Errno{0: api.OK, 150: api.OK, 151: api.ErrForm, -1: api.ErrForm})
	one(func(s *ext.Super, v int64) { s.FreeInodes = v }, map[int64]api.Errno{0: api.OK, 72: api.OK, 73: api.ErrForm, -1: api.ErrForm})
	one(func(s *ext.Super, v int64) { s.Blocks = v }, map[int64]api.Errno{130: api.OK, 129: api.ErrForm, 193: api.OK, 194: api.ErrForm, 7: api.ErrForm, -150: api.ErrForm})
}

// anySuper: one whose fields are about what they may be.
func anySuper(r *rand.Rand) ext.Super {
	near := func(l ...int64) int64 { return l[r.Intn(len(l))] + r.Int63n(3) - 1 }
	s := ext.Super{Per: 8 * (8 + r.Int63n(20)), Each: 8 * (1 + r.Int63n(70)), Blocks: 8 + r.Int63n(3000), Types: r.Intn(2) == 0}
	if r.Intn(6) == 0 {
		s.Per = near(64, 8192, 0, 100)
	}
	if r.Intn(6) == 0 {
		s.Each = near(8, 8192, 0, 8*(s.Per-5), 8*(s.Per-4))
	}
	if r.Intn(6) == 0 {
		s.Blocks = near(8, 16384, 32*s.Per+1)
	}
	s.Inodes = s.Groups() * s.Each
	s.First = 3 + r.Int63n(10)
	s.FreeBlocks, s.FreeInodes = r.Int63n(max(s.Blocks, 1)), r.Int63n(max(s.Inodes, 1))
	switch r.Intn(9) {
	case 0:
		s.Inodes = near(s.Inodes, 0)
	case 1:
		s.First = near(3, s.Each)
	case 2:
		s.FreeBlocks = near(0, s.Blocks)
	case 3:
		s.FreeInodes = near(0, s.Inodes)
	}
	return s
}

func TestCheckAny(t *testing.T) {
	r := rand.New(rand.NewSource(1))
	met := map[api.Errno]int{}
	for range 60000 {
		s := anySuper(r)
		want := checkByWords(s)
		if got := s.Check(); got != want {
			t.Fatalf("%+v: %d, not %d", s, got, want)
		}
		met[want]++
	}
	if met[api.OK] < 5000 || met[api.ErrForm] < 5000 || met[api.ErrLimit] < 500 {
		t.Error(met)
	}
}

// parsed: Parse's answer, held against the plain one; the bytes stay.
func parsed(t *testing.T, what string, b []byte) (ext.Super, api.Errno) {
	t.Helper()
	was := bytes.Clone(b)
	want, e := parseByWords(b)
	s, got := ext.Parse(b)
	if got != e || s != want {
		t.Fatalf("%s: %+v %d, not %+v %d", what, s, got, want, e)
	}
	if !bytes.Equal(b, was) {
		t.Fatalf("%s: what was handed in is changed", what)
	}
	return s, e
}

func TestParse(t *testing.T) {
	for _, types := range []bool{false, true} {
		b := pattern(1024, 4)
		s := right()
		s.Types = types
		lay(s, b)
		if got, e := parsed(t, "right", b); e != api.OK || got != s {
			t.Error(got, e)
		}
		put32(b, 36, 5)
		if got, e := parsed(t, "36 isn't looked at", b); e != api.OK || got != s {
			t.Error(got, e)
		}
	}
	b := pattern(1024, 4)
	lay(right(), b)
	for _, n := range []int{0, 1, 57, 58, 104, 512, 1023} {
		if _, e := parsed(t, "short", b[:n]); e != api.ErrRange {
			t.Error(n, e)
		}
	}
	for _, n := range []int{1, 1024} {
		if _, e := parsed(t, "long", append(bytes.Clone(b), make([]byte, n)...)); e != api.ErrRange {
			t.Error(n, e)
		}
	}
	if _, e := parsed(t, "nothing", nil); e != api.ErrRange {
		t.Error(e)
	}
	// the first that applies
	put32(b, 84, 2)
	if _, e := parsed(t, "Check", b); e != api.ErrForm {
		t.Error(e)
	}
	put32(b, 4, 16384)
	if _, e := parsed(t, "Check", b); e != api.ErrLimit {
		t.Error(e)
	}
	put32(b, 76, 0)
	if _, e := parsed(t, "a fixed number", b); e != api.ErrForm {
		t.Error(e)
	}
	b[56] = 0
	if _, e := parsed(t, "the sign", b); e != api.ErrMagic {
		t.Error(e)
	}
	if _, e := parsed(t, "the length", b[1:]); e != api.ErrRange {
		t.Error(e)
	}
}

// Every byte, changed in every bit, and more.
func TestParseEveryByte(t *testing.T) {
	b := pattern(1024, 4)
	lay(right(), b)
	counts := []int{0, 1, 2, 3, 4, 5, 6, 7, 12, 13, 14, 15, 16, 17, 18, 19, 20, 21, 22, 23, 24, 25, 26, 27, 32, 33, 34, 35, 40, 41, 42, 43, 56, 57, 76, 77, 78, 79, 84, 85, 86, 87, 88, 89, 96, 97, 98, 99, 100, 101, 102, 103}
	for at := range b {
		was := b[at]
		for v := range 256 {
			b[at] = byte(v)
			s, e := parsed(t, "a byte", b)
			if !slices.Contains(counts, at) && (e != api.OK || s != right()) {
				t.Fatalf("byte %d: %+v %d", at, s, e)
			}
		}
		b[at] = was
	}
}

func TestPut(t *testing.T) {
	r := rand.New(rand.NewSource(2))
	for i := range 4000 {
		s := anySuper(r)
		b := pattern(1024, int64(i))
		was := bytes.Clone(b)
		want := checkByWords(s)
		if e := s.Put(b); e != want {
			t.Fatalf("%+v: %d, not %d", s, e, want)
		}
		if want == api.OK {
			lay(s, was)
		}
		if !bytes.Equal(b, was) {
			t.Fatalf("%+v: other bytes", s)
		}
		if want == api.OK {
			if again, e := ext.Parse(b); e != api.OK || again != s {
				t.Fatalf("%+v %d, not %+v", again, e, s)
			}
		}
	}
	for _, n := range []int{0, 1, 104, 1023, 1025, 2048} {
		for _, s := range []ext.Super{right(), {}} {
			b := pattern(n, 5)
			if e := s.Put(b); e != api.ErrRange || !bytes.Equal(b, pattern(n, 5)) {
				t.Error(n, e)
			}
		}
	}
	if e := right().Put(nil); e != api.ErrRange {
		t.Error(e)
	}
	room := pattern(1100, 6)
	ok(t, right().Put(room[:1024]))
	if !bytes.Equal(room[1024:], pattern(1100, 6)[1024:]) {
		t.Error("it wrote behind the block")
	}
}

// places: where a part may begin, and may not.
func places(size, part int) map[int]bool {
	l := map[int]bool{math.MinInt: false, math.MinInt + 1: false, math.MaxInt: false, math.MaxInt - part: false, math.MaxInt - part + 1: false}
	for at := -part - 2; at < size+3; at++ {
		l[at] = at >= 0 && at+part <= size
	}
	return l
}

func TestRow(t *testing.T) {
	for _, size := range []int{0, 1, 18, 31, 32, 33, 100} {
		for at, there := range places(size, 32) {
			b := pattern(size, 3)
			r, e := ext.ParseRow(b, at)
			if !there {
				if e != api.ErrRange || r != (ext.Row{}) {
					t.Errorf("%d bytes, at %d: %+v %d", size, at, r, e)
				}
			} else if want := (ext.Row{Blocks: get32(b, at), Inodes: get32(b, at+4), Table: get32(b, at+8), FreeBlocks: get16(b, at+12), FreeInodes: get16(b, at+14), Folders: get16(b, at+16)}); e != api.OK || r != want {
				t.Errorf("%d bytes, at %d: %+v %d, not %+v", size, at, r, e, want)
			}
			if !bytes.Equal(b, pattern(size, 3)) {
				t.Fatal("what was handed in is changed")
			}
			put := ext.Row{Blocks: 0x01020304, Inodes: 0xF5060708, Table: 1<<32 - 1, FreeBlocks: 65535, FreeInodes: 0x0102, Folders: 9}
			want, error := pattern(size, 3), api.ErrRange
			if there {
				error = api.OK
				layRow(put, want[at:])
			}
			if e := put.Put(b, at); e != error || !bytes.Equal(b, want) {
				t.Errorf("%d bytes, at %d: Put: %d", size, at, e)
			}
			if again, e := ext.ParseRow(b, at); there && (e != api.OK || again != put) {
				t.Errorf("%d bytes, at %d: %+v %d", size, at, again, e)
			}
		}
	}
	room := pattern(64, 3)
	if e := (ext.Row{}).Put(room[:31], 0); e != api.ErrRange || !bytes.Equal(room, pattern(64, 3)) {
		t.Error("the spare room counts", e)
	}
}

func TestInode(t *testing.T) {
	for _, size := range []int{0, 1, 100, 127, 128, 129, 300} {
		for at, there := range places(size, 128) {
			b := pattern(size, 3)
			x, e := ext.ParseInode(b, at)
			var want ext.Inode
			error := api.ErrRange
			if there {
				error = api.OK
				want = ext.Inode{Mode: get16(b, at), Size: get32(b, at+4), Count: get32(b, at+28)}
				for i := range 15 {
					want.At[i] = get32(b, at+40+4*i)
				}
			}
			if e != error || x != want {
				t.Errorf("%d bytes, at %d: %+v %d, not %+v", size, at, x, e, want)
			}
			if !bytes.Equal(b, pattern(size, 3)) {
				t.Fatal("what was handed in is changed")
			}
		}
	}
}

func TestKind(t *testing.T) {
	for mode := range int64(65536) {
		if got := (ext.Inode{Mode: mode}).Kind(); got != mode/4096*4096 {
			t.Fatal(mode, got)
		}
	}
	for mode, want := range map[int64]int64{0x41ED: ext.IsFolder, 0x81A4: ext.IsFile, 0xA1FF: ext.IsLink, 0xC000: 0xC000, 0x0FFF: 0, 0x14000: ext.IsFolder, -1: 0xF000} {
		if got := (ext.Inode{Mode: mode}).Kind(); got != want {
			t.Errorf("%x: %x, not %x", mode, got, want)
		}
	}
	if ext.IsFolder != 0x4000 || ext.IsFile != 0x8000 || ext.IsLink != 0xA000 {
		t.Error("other kinds")
	}
}

func TestMap(t *testing.T) {
	m := ext.Map{0b10000001, 0, 0xFF}
	for i, want := range map[int64]bool{0: true, 1: false, 6: false, 7: true, 8: false, 15: false, 16: true, 23: true, 24: false, -1: false, -8: false, 1000: false, math.MaxInt64: false, math.MinInt64: false} {
		if m.Has(i) != want {
			t.Error("Has", i)
		}
	}
	for n, want := range map[int64]int64{0: 0, 1: 0, 2: 1, 7: 6, 8: 6, 9: 7, 16: 14, 17: 14, 24: 14, 25: 14, 1000: 14, math.MaxInt64: 14, -1: 0, math.MinInt64: 0} {
		if got := m.Count(n); got != want {
			t.Errorf("Count(%d): %d, not %d", n, got, want)
		}
	}
	r := rand.New(rand.NewSource(3))
	for range 2000 {
		m := ext.Map(pattern(r.Intn(5), r.Int63()))
		was := bytes.Clone(m)
		i, on := r.Int63n(50)-5, r.Intn(2) == 0
		if r.Intn(9) == 0 {
			i = extremes[r.Intn(len(extremes))]
		}
		m.Set(i, on)
		size := int64(8 * len(m))
		there := i >= 0 && i < size
		if m.Has(i) != (on && there) {
			t.Fatal("Set", i, on, was, m)
		}
		free := int64(0)
		for k := range size {
			if m.Count(k) != free {
				t.Fatal("Count", k, m)
			}
			if !bit(m, k) {
				free++
			}
			if k != i && bit(m, k) != bit(was, k) || m.Has(k) != bit(m, k) {
				t.Fatal("Set", i, on, was, m)
			}
		}
	}
	var none ext.Map
	none.Set(0, true)
	if none.Has(0) || none.Count(5) != 0 {
		t.Error("something of none")
	}
}
