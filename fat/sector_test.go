package fat_test

import (
	"bytes"
	"math"
	"math/rand"
	"testing"

	"fettle/api"
	"fettle/fat"
)

func TestPlaces(t *testing.T) {
	b := usual()
	if b.Data() != 12 || b.Clusters() != 34 || b.Unit() != 1024 {
		t.Error(b.Data(), b.Clusters(), b.Unit())
	}
	for c := int64(2); c < 40; c++ {
		if x := b.At(c); x != (api.Ext{From: 512 * (12 + 2*(c-2)), To: 512 * (14 + 2*(c-2))}) {
			t.Error(c, x)
		}
	}
	for _, c := range []struct {
		b                    fat.Boot
		data, clusters, unit int64
	}{
		{fat.Boot{}, 0, 0, 0},
		{fat.Boot{Each: 4, Ahead: 3, Tables: 2, Long: 5, Sectors: 13}, 13, 0, 2048},
		{fat.Boot{Each: 4, Ahead: 3, Tables: 2, Long: 5, Sectors: 12}, 13, 0, 2048},
		{fat.Boot{Each: 4, Ahead: 3, Tables: 2, Long: 5, Sectors: 16}, 13, 0, 2048},
		{fat.Boot{Each: 4, Ahead: 3, Tables: 2, Long: 5, Sectors: 17}, 13, 1, 2048},
		{fat.Boot{Each: 4, Ahead: 3, Tables: 2, Long: 5, Sectors: 20}, 13, 1, 2048},
		{fat.Boot{Each: 3, Ahead: 3, Tables: 3, Long: 5, Sectors: 100}, 18, 27, 1536},
		{fat.Boot{Each: 0, Ahead: 3, Tables: 1, Long: 5, Sectors: 100}, 8, 92, 0},
		{fat.Boot{Each: -7, Ahead: 3, Tables: 1, Long: 5, Sectors: 100}, 8, 92, -3584},
		{fat.Boot{Each: -7, Ahead: 3, Tables: 1, Long: 5, Sectors: 7}, 8, 0, -3584},
		{fat.Boot{Each: 1, Ahead: -3, Tables: -1, Long: 5, Sectors: -1}, -8, 7, 512},
		{fat.Boot{Each: 1, Sectors: -1 << 40}, 0, 0, 512},
		{fat.Boot{Each: 2, Sectors: 1 << 40}, 0, 1 << 39, 1024},
	} {
		if c.b.Data() != c.data || c.b.Clusters() != c.clusters || c.b.Unit() != c.unit {
			t.Errorf("%+v: %d, %d, %d", c.b, c.b.Data(), c.b.Clusters(), c.b.Unit())
		}
	}
	most := fat.Boot{Each: math.MinInt64, Ahead: math.MaxInt64, Tables: math.MaxInt64, Sectors: math.MinInt64, Long: math.MinInt64}
	most.Clusters()
	most.At(math.MinInt64)
}

// fields: pointers to all of a boot's.
func fields(b *fat.Boot) []*int64 {
	return []*int64{&b.Each, &b.Ahead, &b.Tables, &b.Sectors, &b.Long, &b.Root, &b.Info, &b.Copy}
}

// Each field at its edges; two of them; any.
func TestCheck(t *testing.T) {
	edges := []int64{math.MinInt64, -1, 0, 1, 2, 3, 4, 5, 6, 7, 8, 9, 34, 35, 36, 63, 64, 65, 68, 79, 80, 81, 126, 127, 128, 32767, 32768, 32769, 1 << 40, math.MaxInt64}
	look := func(b fat.Boot) api.Errno {
		want := check(b)
		if e := b.Check(); e != want {
			t.Fatalf("%+v: %d, not %d", b, e, want)
		}
		return want
	}
	told := map[api.Errno]int{}
	for i := range 8 {
		for _, v := range edges {
			b := usual()
			*fields(&b)[i] = v
			told[look(b)]++
			for j := range i {
				for _, v := range edges {
					c := b
					*fields(&c)[j] = v
					told[look(c)]++
				}
			}
		}
	}
	r := rand.New(rand.NewSource(1))
	for range 20000 {
		b := anyBoot(r)
		if e := look(b); e != api.OK {
			t.Fatalf("%+v: %d", b, e)
		}
		for range 1 + r.Intn(3) {
			*fields(&b)[r.Intn(8)] += r.Int63n(9) - 4
		}
		told[look(b)]++
	}
	for _, e := range []api.Errno{api.OK, api.ErrForm, api.ErrRange, api.ErrLimit} {
		if told[e] < 20 {
			t.Error(told)
		}
	}
}

func TestCheckEdges(t *testing.T) {
	for i, c := range []struct {
		b    fat.Boot
		want api.Errno
	}{
		{fat.Boot{Each: 1, Ahead: 2, Tables: 1, Sectors: 4, Long: 1, Root: 2, Info: 1}, api.OK},                              // the least
		{fat.Boot{Each: 2, Ahead: 2, Tables: 1, Sectors: 4, Long: 1, Root: 2, Info: 1}, api.ErrRange},                        // no cluster
		{fat.Boot{Each: 1, Ahead: 2, Tables: 1, Sectors: 3, Long: 1, Root: 2, Info: 1}, api.ErrRange},                        // nothing behind Data
		{fat.Boot{Each: 1, Ahead: 2, Tables: 2, Sectors: 3, Long: 3, Root: 2, Info: 1}, api.ErrRange},                        // Data is behind the end
		{fat.Boot{Each: 1, Ahead: 2, Tables: 1, Sectors: 129, Long: 1, Root: 127, Info: 1}, api.OK},                          // 126 clusters
		{fat.Boot{Each: 1, Ahead: 2, Tables: 1, Sectors: 130, Long: 1, Root: 127, Info: 1}, api.ErrLimit},                    // 127
		{fat.Boot{Each: 1, Ahead: 2, Tables: 1, Sectors: 130, Long: 1, Root: 0, Info: 1}, api.ErrLimit},                      // ahead of Root
		{fat.Boot{Each: 1, Ahead: 2, Tables: 1, Sectors: 129, Long: 1, Root: 128, Info: 1}, api.ErrRange},                    // Root
		{fat.Boot{Each: 1, Ahead: 2, Tables: 1, Sectors: 129, Long: 1, Root: 1, Info: 1}, api.ErrRange},                      // Root
		{fat.Boot{Each: 8, Ahead: 64, Tables: 2, Sectors: 32768, Long: 33, Root: 4080, Info: 63, Copy: 62}, api.OK},          // the greatest
		{fat.Boot{Each: 1, Ahead: 64, Tables: 2, Sectors: 32768, Long: 256, Root: 2, Info: 63, Copy: 62}, api.OK},            // 32192 of 32766
		{fat.Boot{Each: 1, Ahead: 64, Tables: 2, Sectors: 32768, Long: 250, Root: 2, Info: 63, Copy: 62}, api.ErrLimit},      // 32204 of 31998
		{fat.Boot{Each: 1, Ahead: 2, Tables: 1, Sectors: 4, Long: 1, Root: 2, Info: 1, Copy: 1}, api.ErrForm},                // Copy is Info
		{fat.Boot{Each: 1, Ahead: 3, Tables: 1, Sectors: 5, Long: 1, Root: 2, Info: 1, Copy: 2}, api.OK},                     // Copy
		{fat.Boot{Each: 1, Ahead: 3, Tables: 1, Sectors: 5, Long: 1, Root: 2, Info: 1, Copy: 3}, api.ErrForm},                // Copy in the table
		{fat.Boot{Each: 1, Ahead: 3, Tables: 1, Sectors: 5, Long: 1, Root: 2, Info: 3}, api.ErrForm},                         // Info in the table
		{fat.Boot{Each: 1, Ahead: 3, Tables: 2, Sectors: 5, Long: 6, Root: 2, Info: 3}, api.ErrForm},                         // a table that is longer than all
		{fat.Boot{Each: 1, Ahead: 3, Tables: 2, Sectors: 5, Long: math.MaxInt64 / 2, Root: 2, Info: 1}, api.ErrForm},         // what wraps round
		{fat.Boot{Each: 1, Ahead: 3, Tables: 2, Sectors: math.MaxInt64, Long: math.MaxInt64, Root: 2, Info: 1}, api.ErrForm}, // what wraps round
	} {
		if e := c.b.Check(); e != c.want {
			t.Errorf("%d: %d, not %d", i, e, c.want)
		}
	}
}

// What is put is parsed; all else of the sector stays.
func TestPut(t *testing.T) {
	r := rand.New(rand.NewSource(2))
	written := map[int]int{}
	for at, n := range map[int]int{11: 2, 13: 1, 14: 2, 16: 1, 17: 2, 19: 2, 22: 2, 32: 4, 36: 4, 40: 4, 44: 4, 48: 2, 50: 2, 82: 8, 510: 2} {
		for i := range n {
			written[at+i] = 1
		}
	}
	for i := range 3000 {
		b := anyBoot(r)
		room := pattern(600, int64(i))
		s := room[:512]
		was := bytes.Clone(room)
		ok(t, b.Put(s))
		want := bytes.Clone(was[:512])
		lay(b, want)
		if !bytes.Equal(s, want) || !bytes.Equal(room[512:], was[512:]) {
			t.Fatalf("%+v: other bytes", b)
		}
		for at := range s {
			if written[at] == 0 && s[at] != was[at] {
				t.Fatal("byte", at, "is written")
			}
		}
		got, e := fat.Parse(s)
		if e != api.OK || got != b || !bytes.Equal(s, want) {
			t.Fatalf("%d; %+v, not %+v", e, got, b)
		}
	}
}

func TestPutWrong(t *testing.T) {
	for n := range 1030 {
		s := pattern(n, 1)
		was := bytes.Clone(s)
		if e := usual().Put(s); (e == api.OK) != (n == 512) || e != api.OK && (e != api.ErrRange || !bytes.Equal(s, was)) {
			t.Error(n, e)
		}
		if e := (fat.Boot{}).Put(s); n != 512 && e != api.ErrRange { // ahead of Check
			t.Error(n, e)
		}
	}
	if e := usual().Put(nil); e != api.ErrRange {
		t.Error(e)
	}
	for i := range 8 {
		for _, v := range []int64{-1, 0, 3, 100, 1 << 40} {
			b := usual()
			*fields(&b)[i] = v
			s := pattern(512, 9)
			was := bytes.Clone(s)
			if want := check(b); b.Put(s) != want || want != api.OK && !bytes.Equal(s, was) {
				t.Errorf("%+v: %d", b, want)
			}
		}
	}
}

// looked: Parse's answer, held against the plain one; the sector stays as it is.
func looked(t *testing.T, s []byte) api.Errno {
	t.Helper()
	was := bytes.Clone(s)
	want, e := parseByWords(s)
	b, got := fat.Parse(s)
	if got != e || b != want {
		t.Fatalf("Parse: %d, not %d; %+v, not %+v", got, e, b, want)
	}
	if !bytes.Equal(s, was) {
		t.Fatal("what was handed in is changed")
	}
	return e
}

// Every byte of a first sector, whatever it is.
func TestParseEveryByte(t *testing.T) {
	s := pattern(512, 4)
	lay(usual(), s)
	for at := range s {
		was := s[at]
		for v := range 256 {
			s[at] = byte(v)
			looked(t, s)
		}
		s[at] = was
	}
}

// Any bytes, as they come and with fields that may be.
func TestParseAny(t *testing.T) {
	r := rand.New(rand.NewSource(3))
	looked(t, nil)
	for n := range 600 {
		looked(t, pattern(n, int64(n)))
		looked(t, make([]byte, n))
	}
	long := pattern(513, 1)
	lay(usual(), long)
	if e := looked(t, long); e != api.ErrRange {
		t.Error(e)
	}
	told := map[api.Errno]int{}
	places := []int{11, 12, 13, 14, 15, 16, 17, 18, 19, 20, 22, 23, 32, 33, 34, 35, 36, 37, 40, 41, 42, 43, 44, 45, 48, 49, 50, 51, 82, 89, 510, 511}
	for i := range 40000 {
		s := pattern(512, int64(i))
		lay(anyBoot(r), s)
		for range r.Intn(3) {
			s[places[r.Intn(len(places))]] = byte(r.Intn(1 << (1 + r.Intn(8))))
		}
		told[looked(t, s)]++
	}
	for _, e := range []api.Errno{api.OK, api.ErrMagic, api.ErrForm, api.ErrRange, api.ErrLimit} {
		if told[e] < 20 {
			t.Error(told)
		}
	}
}

func TestParseFirstError(t *testing.T) {
	s := pattern(512, 5)
	b := usual()
	b.Root = 1
	lay(b, s)
	steps := []struct {
		want api.Errno
		do   func()
	}{
		{api.ErrRange, func() {}},                    // Root
		{api.ErrLimit, func() { put32(s, 32, 600) }}, // more clusters than the table has room for
		{api.ErrRange, func() { put32(s, 32, 12) }},  // no cluster
		{api.ErrForm, func() { s[13] = 3 }},
		{api.ErrForm, func() { s[13] = 2; s[43] = 1 }},
		{api.ErrMagic, func() { s[511] = 0xAB }},
		{api.ErrMagic, func() { s[511] = 0xAA; s[89] = 'x' }},
		{api.ErrRange, func() { s = s[:511] }},
	}
	for i, step := range steps {
		step.do()
		if e := looked(t, s); e != step.want {
			t.Errorf("step %d: %d, not %d", i, e, step.want)
		}
	}
}

func TestCounts(t *testing.T) {
	numbers := []int64{math.MinInt64, -1, 0, 1, 57, 1 << 28, 1<<31 - 1, 1 << 31, fat.Unknown - 1, fat.Unknown, fat.Unknown + 1, math.MaxInt64}
	for _, free := range numbers {
		for _, next := range numbers {
			c := fat.Counts{Free: free, Next: next}
			s, e := fat.PutCounts(c)
			if min(free, next) < 0 || max(free, next) > fat.Unknown {
				if e != api.ErrRange || len(s) > 0 {
					t.Error(c, e)
				}
				continue
			}
			want := make([]byte, 512)
			layCounts(want, free, next)
			if e != api.OK || !bytes.Equal(s, want) {
				t.Error(c, e)
			}
			if got, e := fat.ParseCounts(s); e != api.OK || got != c {
				t.Error(got, e)
			}
		}
	}
}

func TestParseCounts(t *testing.T) {
	s := pattern(512, 6)
	layCounts(s, 7, fat.Unknown)
	signs := map[int]int{}
	for _, at := range []int{0, 484, 508} {
		for i := range 4 {
			signs[at+i] = 1
		}
	}
	for at := range s {
		for bit := range 8 {
			s[at] ^= 1 << bit
			was := bytes.Clone(s)
			c, e := fat.ParseCounts(s)
			want, told := fat.Counts{Free: get32(s, 488), Next: get32(s, 492)}, api.OK
			if signs[at] == 1 {
				want, told = fat.Counts{}, api.ErrMagic
			}
			if c != want || e != told {
				t.Fatalf("byte %d: %d, %+v", at, e, c)
			}
			if !bytes.Equal(s, was) {
				t.Fatal("what was handed in is changed")
			}
			s[at] ^= 1 << bit
		}
	}
	for n := range 1030 {
		b := make([]byte, n)
		copy(b, s)
		if c, e := fat.ParseCounts(b); n != 512 && (e != api.ErrRange || c != fat.Counts{}) {
			t.Error(n, c, e)
		}
	}
}
