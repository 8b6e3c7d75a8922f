package disk_test

import (
	"bytes"
	"math"
	"math/rand"
	"slices"
	"testing"

	"fettle/api"
	"fettle/disk"
)

// The signatures that the document lists.
var (
	_ func([]byte) (*disk.File, api.Errno)               = disk.New
	_ func(*disk.File, int64, int64) ([]byte, api.Errno) = (*disk.File).Read
	_ func(*disk.File, int64, []byte) api.Errno          = (*disk.File).Write
	_ func(*disk.File, int64) api.Errno                  = (*disk.File).Truncate
	_ func(*disk.File) api.Errno                         = (*disk.File).Flush
	_ func(*disk.File, int)                              = (*disk.File).Refuse
	_ func(*disk.File, int)                              = (*disk.File).Stop
	_ func(*disk.File) bool                              = (*disk.File).Stopped
	_ func(*disk.File, ...bool) []byte                   = (*disk.File).Crash
	_ func(*disk.File) int64                             = (*disk.File).Len
	_ func(*disk.File) []byte                            = (*disk.File).Bytes
	_ func(*disk.File) int                               = (*disk.File).Ops
	_ func(*disk.File) int                               = (*disk.File).Wrote
	_ func(*disk.File) int                               = (*disk.File).Waiting
)

// extremes: places, lengths and sizes with which a sum or a difference would wrap round.
var extremes = []int64{
	math.MinInt64, math.MinInt64 + 1, math.MinInt64 + 512, math.MinInt32, -api.MaxFile - 1, -api.MaxFile, -512, -1,
	api.MaxFile + 1, math.MaxInt32, math.MaxInt32 + 1, math.MaxUint32, math.MaxUint32 + 1,
	math.MaxInt64 - 512, math.MaxInt64 - 1, math.MaxInt64,
}

// model is a file in the document's words: every write is kept as what it does
// to bytes, and all that is left is made by doing them.
type model struct {
	seen, safe []byte
	row        []func([]byte) []byte
	ops, wrote int
	refused    func(op int) bool
	stops      bool
	stopped    bool
}

func newModel(b []byte) *model {
	return &model{seen: slices.Clone(b), safe: slices.Clone(b), refused: never}
}

func never(int) bool { return false }

func (m *model) ask() bool {
	m.ops++
	if !m.refused(m.ops) {
		return true
	}
	m.stopped = m.stopped || m.stops
	return false
}

// put: one byte at a place, with noughts ahead of it where there is nothing.
func put(b []byte, at int64, c byte) []byte {
	for int64(len(b)) <= at {
		b = append(b, 0)
	}
	b[at] = c
	return b
}

func (m *model) read(at, n int64) ([]byte, api.Errno) {
	if !m.ask() {
		return nil, api.ErrIO
	}
	size := int64(len(m.seen))
	if at < 0 || n < 0 || at > size || n > size || at+n > size {
		return nil, api.ErrRange
	}
	return slices.Clone(m.seen[at : at+n]), api.OK
}

func (m *model) write(at int64, p []byte) api.Errno {
	if !m.ask() {
		return api.ErrIO
	}
	if at < 0 {
		return api.ErrRange
	}
	if at > api.MaxFile || at+int64(len(p)) > api.MaxFile {
		return api.ErrBig
	}
	m.wrote++
	bySector := map[int64][]byte{}
	for i, c := range p {
		m.seen = put(m.seen, at+int64(i), c)
		sector := (at + int64(i)) / 512
		bySector[sector] = append(bySector[sector], c)
	}
	for sector := at / 512; len(bySector) > 0; sector++ {
		from, part := max(at, 512*sector), bySector[sector]
		delete(bySector, sector)
		m.row = append(m.row, func(b []byte) []byte {
			for i, c := range part {
				b = put(b, from+int64(i), c)
			}
			return b
		})
	}
	return api.OK
}

func (m *model) truncate(n int64) api.Errno {
	if !m.ask() {
		return api.ErrIO
	}
	if n < 0 || n > api.MaxFile {
		return api.ErrBig
	}
	m.wrote++
	cut := func(b []byte) []byte {
		out := make([]byte, n)
		copy(out, b)
		return out
	}
	m.seen = cut(m.seen)
	m.row = append(m.row, cut)
	return api.OK
}

func (m *model) flush() api.Errno {
	if !m.ask() {
		return api.ErrIO
	}
	m.safe, m.row = slices.Clone(m.seen), nil
	return api.OK
}

func (m *model) refuse(n int) {
	op := m.ops + n
	m.stops, m.refused = false, never
	if n >= 1 && n <= 65536 {
		m.refused = func(k int) bool { return k == op }
	}
}

func (m *model) stop(n int) {
	op := m.ops + n
	m.stops, m.refused = true, never
	if n >= 1 && n <= 65536 {
		m.refused = func(k int) bool { return k >= op }
	}
}

func (m *model) crash(keep ...bool) []byte {
	b := slices.Clone(m.safe)
	for i, w := range m.row {
		if i < len(keep) && keep[i] {
			b = w(b)
		}
	}
	return b
}

func made(t *testing.T, b []byte) *disk.File {
	t.Helper()
	f, e := disk.New(b)
	if e != api.OK || f == nil {
		t.Fatal("New:", e)
	}
	return f
}

// ok ends a test where an operation that must be done wasn't.
func ok(t *testing.T, e api.Errno) {
	t.Helper()
	if e != api.OK {
		t.Fatal("error", e)
	}
}

// pattern: bytes none of which is 0.
func pattern(n int, seed byte) []byte {
	b := make([]byte, n)
	for i := range b {
		b[i] = byte((i*7+int(seed))%255 + 1)
	}
	return b
}

// compare holds all that a file tells against the model.
func compare(t *testing.T, f *disk.File, m *model, r *rand.Rand) {
	t.Helper()
	if f.Len() != int64(len(m.seen)) || !bytes.Equal(f.Bytes(), m.seen) {
		t.Fatalf("seen: %d bytes, want %d, or others", f.Len(), len(m.seen))
	}
	if f.Ops() != m.ops || f.Wrote() != m.wrote || f.Waiting() != len(m.row) || f.Stopped() != m.stopped {
		t.Fatalf("Ops %d, Wrote %d, Waiting %d, Stopped %t; want %d, %d, %d, %t", f.Ops(), f.Wrote(), f.Waiting(), f.Stopped(), m.ops, m.wrote, len(m.row), m.stopped)
	}
	keep := make([]bool, r.Intn(len(m.row)+3))
	for i := range keep {
		keep[i] = r.Intn(2) == 0
	}
	if got := f.Crash(keep...); !bytes.Equal(got, m.crash(keep...)) {
		t.Fatalf("Crash%v: %d bytes, want %d, or others", keep, len(got), len(m.crash(keep...)))
	}
	if !bytes.Equal(f.Crash(), m.safe) {
		t.Fatal("Crash that keeps nothing isn't what is safe")
	}
	if !bytes.Equal(f.Crash(all(len(m.row))...), m.seen) {
		t.Fatal("Crash that keeps all isn't what is seen")
	}
}

func all(n int) []bool { return slices.Repeat([]bool{true}, n) }

// step does one thing, chosen at random, to both.
func step(t *testing.T, f *disk.File, m *model, r *rand.Rand) {
	t.Helper()
	place := r.Int63n(2600) - 40
	var got, want api.Errno
	switch r.Intn(12) {
	case 0, 1, 2, 3:
		p := pattern(r.Intn(1100)*r.Intn(2)+r.Intn(5), byte(r.Intn(200)))
		got, want = f.Write(place, p), m.write(place, p)
	case 4, 5:
		got, want = f.Truncate(place), m.truncate(place)
	case 6, 7:
		n := r.Int63n(1200) - 20
		b, e := f.Read(place, n)
		c, d := m.read(place, n)
		if !bytes.Equal(b, c) {
			t.Fatalf("Read(%d, %d): other bytes", place, n)
		}
		got, want = e, d
	case 8, 9:
		got, want = f.Flush(), m.flush()
	case 10:
		n := r.Intn(8) - 2
		f.Refuse(n)
		m.refuse(n)
	case 11:
		n := r.Intn(12) - 4
		f.Stop(n)
		m.stop(n)
	}
	if got != want {
		t.Fatalf("error %d, want %d", got, want)
	}
}

func TestAnyOperations(t *testing.T) {
	for seed := range int64(150) {
		r := rand.New(rand.NewSource(seed))
		b := pattern(r.Intn(1500), 9)
		f, m := made(t, b), newModel(b)
		compare(t, f, m, r)
		for range 60 {
			step(t, f, m, r)
			compare(t, f, m, r)
		}
	}
}

func TestExample(t *testing.T) {
	f := made(t, make([]byte, 600))
	ok(t, f.Write(510, []byte{1, 2, 3}))
	if f.Waiting() != 2 {
		t.Error("writes that wait:", f.Waiting())
	}
	want := make([]byte, 600)
	want[512] = 3
	if !bytes.Equal(f.Crash(false, true), want) {
		t.Error("a crash that keeps the second sector")
	}
	want = make([]byte, 600)
	want[510], want[511] = 1, 2
	if !bytes.Equal(f.Crash(true, false), want) || !bytes.Equal(f.Crash(true), want) {
		t.Error("a crash that keeps the first sector")
	}
}

func TestNewSizes(t *testing.T) {
	for _, n := range []int{0, 1, 511, 512, 513, api.MaxFile - 1, api.MaxFile} {
		b := pattern(n, 3)
		f := made(t, b)
		if f.Len() != int64(n) || !bytes.Equal(f.Bytes(), b) || !bytes.Equal(f.Crash(), b) || !bytes.Equal(f.Crash(true, true), b) {
			t.Errorf("New of %d bytes", n)
		}
		if f.Ops() != 0 || f.Wrote() != 0 || f.Waiting() != 0 || f.Stopped() {
			t.Errorf("New of %d bytes: an operation", n)
		}
	}
	for _, n := range []int{api.MaxFile + 1, 2 * api.MaxFile} {
		if f, e := disk.New(make([]byte, n)); f != nil || e != api.ErrBig {
			t.Errorf("New of %d bytes: %v %d", n, f, e)
		}
	}
	if f := made(t, nil); f.Len() != 0 || len(f.Bytes()) != 0 || len(f.Crash()) != 0 {
		t.Error("New of nil")
	}
}

func TestReadPlaces(t *testing.T) {
	for _, size := range []int64{0, 1, 600, 1024} {
		b := pattern(int(size), 5)
		f := made(t, b)
		m := newModel(b)
		numbers := append([]int64{0, 1, 2, 511, 512, 513, size - 1, size, size + 1, size + 2, api.MaxFile}, extremes...)
		for _, at := range numbers {
			for _, n := range append(numbers, size-at) {
				got, e := f.Read(at, n)
				want, d := m.read(at, n)
				if e != d || !bytes.Equal(got, want) {
					t.Errorf("Read(%d, %d) of %d bytes: %d bytes, error %d, want %d, %d", at, n, size, len(got), e, len(want), d)
				}
			}
		}
		if f.Ops() != m.ops || f.Wrote() != 0 || f.Waiting() != 0 || !bytes.Equal(f.Bytes(), b) {
			t.Error("Reads that changed something, or don't count")
		}
	}
}

// refusedWith tells whether an operation was refused, counted, and did nothing.
func refusedWith(t *testing.T, name string, f *disk.File, want api.Errno, do func() api.Errno) {
	t.Helper()
	seen, safe, ops, wrote, waiting := f.Bytes(), f.Crash(), f.Ops(), f.Wrote(), f.Waiting()
	if e := do(); e != want {
		t.Errorf("%s: error %d, want %d", name, e, want)
	}
	if f.Ops() != ops+1 || f.Wrote() != wrote || f.Waiting() != waiting {
		t.Errorf("%s: Ops %d, Wrote %d, Waiting %d; ahead %d, %d, %d", name, f.Ops(), f.Wrote(), f.Waiting(), ops, wrote, waiting)
	}
	if !bytes.Equal(f.Bytes(), seen) || !bytes.Equal(f.Crash(), safe) || !bytes.Equal(f.Crash(all(waiting)...), seen) {
		t.Errorf("%s: bytes are changed", name)
	}
}

func TestWriteRefuses(t *testing.T) {
	f := made(t, pattern(700, 1))
	ok(t, f.Write(10, []byte{1}))
	for _, at := range extremes {
		want := api.ErrBig
		if at < 0 {
			want = api.ErrRange
		}
		for _, n := range []int{0, 1, 512, 4096} {
			refusedWith(t, "Write outside", f, want, func() api.Errno { return f.Write(at, make([]byte, n)) })
		}
	}
	for _, n := range []int64{1, 2, 511, 512, 513, api.MaxFile} {
		p := make([]byte, n)
		refusedWith(t, "Write over the end", f, api.ErrBig, func() api.Errno { return f.Write(api.MaxFile-n+1, p) })
	}
	great := make([]byte, api.MaxFile+1)
	refusedWith(t, "Write of too many", f, api.ErrBig, func() api.Errno { return f.Write(0, great) })
	refusedWith(t, "Write of too many, below 0", f, api.ErrRange, func() api.Errno { return f.Write(-1, great) })
}

func TestWriteUpToTheEnd(t *testing.T) {
	f := made(t, []byte{7})
	ok(t, f.Write(api.MaxFile-3, []byte{1, 2, 3}))
	want := make([]byte, api.MaxFile)
	want[0] = 7
	copy(want[api.MaxFile-3:], []byte{1, 2, 3})
	if f.Waiting() != 1 || f.Len() != api.MaxFile || !bytes.Equal(f.Bytes(), want) || !bytes.Equal(f.Crash(true), want) || !bytes.Equal(f.Crash(), []byte{7}) {
		t.Error("the last three bytes")
	}
	p := pattern(api.MaxFile, 4)
	ok(t, f.Write(0, p))
	if f.Waiting() != 1+api.MaxFile/512 || !bytes.Equal(f.Bytes(), p) {
		t.Error("all bytes")
	}
	ok(t, f.Write(api.MaxFile, nil))
	if f.Len() != api.MaxFile || f.Wrote() != 3 {
		t.Error("no byte at the end")
	}
}

func TestWriteIsByItsSectors(t *testing.T) {
	for _, c := range []struct {
		at     int64
		n      int
		writes []api.Ext
	}{
		{0, 1, []api.Ext{{From: 0, To: 1}}},
		{0, 512, []api.Ext{{From: 0, To: 512}}},
		{511, 1, []api.Ext{{From: 511, To: 512}}},
		{511, 2, []api.Ext{{From: 511, To: 512}, {From: 512, To: 513}}},
		{512, 512, []api.Ext{{From: 512, To: 1024}}},
		{1, 512, []api.Ext{{From: 1, To: 512}, {From: 512, To: 513}}},
		{500, 1100, []api.Ext{{From: 500, To: 512}, {From: 512, To: 1024}, {From: 1024, To: 1536}, {From: 1536, To: 1600}}},
		{1900, 600, []api.Ext{{From: 1900, To: 2048}, {From: 2048, To: 2500}}},
		{2100, 10, []api.Ext{{From: 2100, To: 2110}}},
	} {
		ahead := make([]byte, 2000)
		f := made(t, ahead)
		p := pattern(c.n, 8)
		ok(t, f.Write(c.at, p))
		if f.Waiting() != len(c.writes) || f.Wrote() != 1 || f.Ops() != 1 {
			t.Errorf("Write(%d, %d bytes): %d writes wait, want %d", c.at, c.n, f.Waiting(), len(c.writes))
			continue
		}
		for i, x := range c.writes { // each of them alone
			keep := make([]bool, len(c.writes))
			keep[i] = true
			want := slices.Clone(ahead)
			for at := x.From; at < x.To; at++ {
				want = put(want, at, p[at-c.at])
			}
			if !bytes.Equal(f.Crash(keep...), want) {
				t.Errorf("Write(%d, %d bytes): a crash that keeps write %d alone", c.at, c.n, i)
			}
		}
	}
}

func TestWriteBeyondTheEnd(t *testing.T) {
	f := made(t, []byte{1, 2, 3})
	ok(t, f.Write(6, []byte{9}))
	if !bytes.Equal(f.Bytes(), []byte{1, 2, 3, 0, 0, 0, 9}) || f.Len() != 7 || f.Waiting() != 1 {
		t.Error("noughts between the end and the place:", f.Bytes())
	}
	if !bytes.Equal(f.Crash(true), f.Bytes()) || !bytes.Equal(f.Crash(false), []byte{1, 2, 3}) {
		t.Error("Crash")
	}
	ok(t, f.Write(1500, []byte{8, 8}))
	if f.Len() != 1502 || f.Waiting() != 2 || len(f.Crash(false, true)) != 1502 {
		t.Error("a place some sectors behind the end")
	}
}

func TestWriteOfNothing(t *testing.T) {
	f := made(t, []byte{1, 2, 3})
	for i, at := range []int64{0, 2, 3, 4, 512, 4000, api.MaxFile} {
		ok(t, f.Write(at, nil))
		ok(t, f.Write(at, []byte{}))
		if f.Waiting() != 0 || f.Wrote() != 2*i+2 || f.Ops() != 2*i+2 {
			t.Errorf("at %d: Waiting %d, Wrote %d, Ops %d", at, f.Waiting(), f.Wrote(), f.Ops())
		}
		if !bytes.Equal(f.Bytes(), []byte{1, 2, 3}) || !bytes.Equal(f.Crash(), f.Bytes()) {
			t.Errorf("at %d: bytes are changed", at)
		}
	}
}

func TestTruncate(t *testing.T) {
	f := made(t, pattern(1000, 2))
	for _, n := range append([]int64{-2, -1, api.MaxFile + 1}, extremes...) {
		refusedWith(t, "Truncate", f, api.ErrBig, func() api.Errno { return f.Truncate(n) })
	}
	for i, n := range []int64{1000, 700, 700, 0, 1, 0, api.MaxFile, 5} {
		ok(t, f.Truncate(n))
		if f.Len() != n || f.Waiting() != i+1 || f.Wrote() != i+1 || !bytes.Equal(f.Crash(all(i+1)...), f.Bytes()) {
			t.Errorf("Truncate(%d): %d bytes, %d writes wait", n, f.Len(), f.Waiting())
		}
	}
}

func TestTruncatedBytesDontComeBack(t *testing.T) {
	want := append(pattern(10, 2), make([]byte, 990)...)
	f := made(t, pattern(1000, 2))
	ok(t, f.Truncate(10))
	ok(t, f.Truncate(1000))
	if !bytes.Equal(f.Bytes(), want) || !bytes.Equal(f.Crash(true, true), want) || !bytes.Equal(f.Crash(false, true), pattern(1000, 2)) {
		t.Error("by Truncate")
	}
	ok(t, f.Flush())
	if !bytes.Equal(f.Crash(), want) {
		t.Error("by Truncate, behind Flush")
	}
	f = made(t, pattern(1000, 2))
	ok(t, f.Truncate(10))
	ok(t, f.Write(990, make([]byte, 10)))
	if !bytes.Equal(f.Bytes(), want) || !bytes.Equal(f.Crash(true, true), want) {
		t.Error("by Write")
	}
	ok(t, f.Flush())
	if !bytes.Equal(f.Crash(), want) {
		t.Error("by Write, behind Flush")
	}
}

// TestEveryCrash: of a row of writes each choice of those that are kept.
func TestEveryCrash(t *testing.T) {
	ahead := pattern(1300, 1)
	f, m := made(t, ahead), newModel(ahead)
	write := func(at int64, p []byte) {
		t.Helper()
		ok(t, f.Write(at, p))
		m.write(at, p)
	}
	cut := func(n int64) {
		t.Helper()
		ok(t, f.Truncate(n))
		m.truncate(n)
	}
	write(500, pattern(600, 50)) // three sectors
	cut(900)
	write(1000, pattern(40, 90)) // two, and a hole ahead
	cut(1100)
	write(505, pattern(3, 130))
	row := len(m.row)
	if f.Waiting() != row || row != 8 {
		t.Fatal("writes that wait:", f.Waiting(), row)
	}
	for set := range 1 << row {
		keep := make([]bool, row)
		for i := range keep {
			keep[i] = set>>i&1 == 1
		}
		if !bytes.Equal(f.Crash(keep...), m.crash(keep...)) {
			t.Fatalf("Crash%v", keep)
		}
		if longer := append(keep, true, true, true); !bytes.Equal(f.Crash(longer...), m.crash(keep...)) {
			t.Fatalf("Crash%v, told of more than wait", longer)
		}
		for n := range keep {
			if !bytes.Equal(f.Crash(keep[:n]...), m.crash(keep[:n]...)) {
				t.Fatalf("Crash%v, told of fewer than wait", keep[:n])
			}
		}
	}
	if f.Ops() != 5 || f.Waiting() != row || !bytes.Equal(f.Bytes(), m.seen) || !bytes.Equal(f.Crash(), ahead) {
		t.Error("a crash changed the file")
	}
}

// TestSafeOutlives: what was flushed, and isn't written again, stands behind each crash.
func TestSafeOutlives(t *testing.T) {
	f := made(t, nil)
	ok(t, f.Write(0, pattern(2048, 1)))
	if len(f.Crash()) != 0 {
		t.Error("safe ahead of Flush")
	}
	ok(t, f.Flush())
	if f.Waiting() != 0 || f.Wrote() != 1 || !bytes.Equal(f.Crash(), pattern(2048, 1)) {
		t.Error("Flush")
	}
	ok(t, f.Write(700, pattern(700, 77))) // the sectors 1 and 2, from 700 to 1399
	for set := range 1 << f.Waiting() {
		left := f.Crash(set&1 == 1, set&2 == 2)
		if len(left) != 2048 || !bytes.Equal(left[:700], pattern(2048, 1)[:700]) || !bytes.Equal(left[1400:], pattern(2048, 1)[1400:]) {
			t.Errorf("%02b: what was safe is lost", set)
		}
	}
	ok(t, f.Flush())
	want := pattern(2048, 1)
	copy(want[700:], pattern(700, 77))
	if !bytes.Equal(f.Crash(), want) || !bytes.Equal(f.Crash(true, true), want) || !bytes.Equal(f.Bytes(), want) {
		t.Error("Flush again")
	}
}

// TestLastIsSeen: a Read answers what was written last, flushed or not.
func TestLastIsSeen(t *testing.T) {
	f := made(t, make([]byte, 2000))
	for i := range byte(20) {
		ok(t, f.Write(int64(i)*50+300, pattern(400, i)))
		if i%3 == 0 {
			ok(t, f.Flush())
		}
		got, e := f.Read(int64(i)*50+300, 400)
		if e != api.OK || !bytes.Equal(got, pattern(400, i)) {
			t.Fatalf("write %d isn't read", i)
		}
	}
}

// operations: each kind once, as one that would be done, and as one that would be refused anyway.
func operations(f *disk.File) []func() api.Errno {
	return []func() api.Errno{
		func() api.Errno { b, e := f.Read(0, 5); return first(len(b) == 0, e) },
		func() api.Errno { return f.Write(3, []byte{1, 2}) },
		func() api.Errno { return f.Truncate(20) },
		func() api.Errno { return f.Flush() },
		func() api.Errno { b, e := f.Read(-1, 5); return first(len(b) == 0, e) },
		func() api.Errno { return f.Write(-1, []byte{1, 2}) },
		func() api.Errno { return f.Write(api.MaxFile, []byte{1, 2}) },
		func() api.Errno { return f.Truncate(-1) },
	}
}

// first: the error, if it is beside nothing; -1 else, which is none of them.
func first(nothing bool, e api.Errno) api.Errno {
	if e != api.OK && !nothing {
		return -1
	}
	return e
}

func TestRefuseComesFirst(t *testing.T) {
	f := made(t, pattern(100, 1))
	ok(t, f.Write(50, []byte{1}))
	for i := range operations(f) {
		f.Refuse(1)
		refusedWith(t, "Refuse(1)", f, api.ErrIO, operations(f)[i])
		if f.Stopped() {
			t.Error("Refuse stopped something")
		}
	}
	for i := range operations(f) {
		f.Stop(1)
		refusedWith(t, "Stop(1)", f, api.ErrIO, operations(f)[i])
		refusedWith(t, "Stop(1), again", f, api.ErrIO, operations(f)[i])
		if !f.Stopped() {
			t.Error("Stop stopped nothing")
		}
	}
	f.Stop(0)
	ok(t, f.Flush())
}

// TestEveryOperationCounts: those too that are refused, or ask for what isn't there.
func TestEveryOperationCounts(t *testing.T) {
	for i := range operations(nil) {
		f := made(t, pattern(100, 1))
		f.Refuse(2)
		operations(f)[i]()
		if f.Ops() != 1 || f.Flush() != api.ErrIO || f.Ops() != 2 || f.Flush() != api.OK {
			t.Errorf("operation %d doesn't count for Refuse", i)
		}
		f.Stop(2)
		operations(f)[i]()
		if f.Stopped() || f.Flush() != api.ErrIO || !f.Stopped() || f.Flush() != api.ErrIO || f.Ops() != 6 {
			t.Errorf("operation %d doesn't count for Stop", i)
		}
	}
	f := made(t, nil)
	f.Crash(true)
	f.Len()
	f.Bytes()
	f.Waiting()
	f.Wrote()
	f.Stopped()
	f.Refuse(1)
	f.Stop(3)
	if f.Ops() != 0 {
		t.Error("what is no operation counts")
	}
}

// answers: the errors of so many Flushes.
func answers(f *disk.File, n int) string {
	s := make([]byte, n)
	for i := range s {
		s[i] = byte('0' + f.Flush())
	}
	return string(s)
}

func TestRefuseAndStop(t *testing.T) {
	for _, c := range []struct {
		name string
		say  func(f *disk.File)
		want string
	}{
		{"nothing", func(f *disk.File) {}, "000000"},
		{"Refuse(1)", func(f *disk.File) { f.Refuse(1) }, "500000"},
		{"Refuse(3)", func(f *disk.File) { f.Refuse(3) }, "005000"},
		{"Stop(1)", func(f *disk.File) { f.Stop(1) }, "555555"},
		{"Stop(4)", func(f *disk.File) { f.Stop(4) }, "000555"},
		{"Refuse(2), Refuse(4)", func(f *disk.File) { f.Refuse(2); f.Refuse(4) }, "000500"},
		{"Stop(2), Stop(5)", func(f *disk.File) { f.Stop(2); f.Stop(5) }, "000055"},
		{"Stop(2), Refuse(3)", func(f *disk.File) { f.Stop(2); f.Refuse(3) }, "005000"},
		{"Refuse(2), Stop(4)", func(f *disk.File) { f.Refuse(2); f.Stop(4) }, "000555"},
		{"Refuse(2), Refuse(0)", func(f *disk.File) { f.Refuse(2); f.Refuse(0) }, "000000"},
		{"Stop(2), Stop(0)", func(f *disk.File) { f.Stop(2); f.Stop(0) }, "000000"},
		{"Stop(2), Refuse(-1)", func(f *disk.File) { f.Stop(2); f.Refuse(-1) }, "000000"},
		{"Refuse(2), Stop(65537)", func(f *disk.File) { f.Refuse(2); f.Stop(api.MaxOps + 1) }, "000000"},
		{"Refuse(2), one operation, Refuse(2)", func(f *disk.File) { f.Refuse(2); f.Flush(); f.Refuse(2) }, "050000"},
		{"Stop(1), two operations, Stop(3)", func(f *disk.File) { f.Stop(1); f.Flush(); f.Flush(); f.Stop(3) }, "005555"},
	} {
		f := made(t, nil)
		c.say(f)
		if got := answers(f, len(c.want)); got != c.want {
			t.Errorf("%s: %s, want %s", c.name, got, c.want)
		}
	}
}

func TestRefuseAndStopOfNoOperation(t *testing.T) {
	for _, n := range []int{0, -1, -2, math.MinInt, math.MinInt + 1, math.MinInt32, api.MaxOps + 1, math.MaxInt32, math.MaxInt - 1, math.MaxInt} {
		for _, say := range []func(f *disk.File){func(f *disk.File) { f.Refuse(n) }, func(f *disk.File) { f.Stop(n) }} {
			f := made(t, nil)
			f.Stop(3)
			ok(t, f.Flush())
			say(f)
			for range 100 {
				ok(t, f.Flush())
			}
			if f.Stopped() {
				t.Errorf("%d: stopped", n)
			}
		}
	}
}

func TestRefuseAndStopAtMaxOps(t *testing.T) {
	refuse, stop, beyond := made(t, nil), made(t, nil), made(t, nil)
	refuse.Refuse(api.MaxOps)
	stop.Stop(api.MaxOps)
	beyond.Stop(api.MaxOps + 1)
	for range api.MaxOps - 1 {
		ok(t, refuse.Flush())
		ok(t, stop.Flush())
		ok(t, beyond.Flush())
	}
	if stop.Stopped() || answers(refuse, 3) != "500" || answers(stop, 3) != "555" || !stop.Stopped() || answers(beyond, 3) != "000" {
		t.Error("the operation 65536, and those behind")
	}
}

func TestStoppedIsOfWhatWas(t *testing.T) {
	f := made(t, nil)
	f.Stop(2)
	if f.Stopped() || f.Flush() != api.OK || f.Stopped() {
		t.Error("stopped ahead of its time")
	}
	if f.Flush() != api.ErrIO || !f.Stopped() {
		t.Error("not stopped")
	}
	f.Stop(0)
	if f.Flush() != api.OK || !f.Stopped() {
		t.Error("an operation has been stopped, and it is forgotten")
	}
}

func TestNilFile(t *testing.T) {
	var f *disk.File
	for _, n := range append([]int64{0, 1}, extremes...) {
		if b, e := f.Read(n, n); len(b) != 0 || e != api.ErrNil {
			t.Error("Read:", b, e)
		}
		if f.Write(n, []byte{1}) != api.ErrNil || f.Truncate(n) != api.ErrNil {
			t.Error("Write, Truncate")
		}
		f.Refuse(int(n))
		f.Stop(int(n))
	}
	if f.Flush() != api.ErrNil || f.Stopped() || len(f.Crash(true, false)) != 0 || f.Len() != 0 || len(f.Bytes()) != 0 {
		t.Error("Flush, Stopped, Crash, Len, Bytes")
	}
	if f.Ops() != 0 || f.Wrote() != 0 || f.Waiting() != 0 {
		t.Error("an operation of nothing counts")
	}
}

func TestFileOfItsOwn(t *testing.T) {
	f := &disk.File{}
	ok(t, f.Write(2, []byte{5}))
	if !bytes.Equal(f.Bytes(), []byte{0, 0, 5}) || len(f.Crash()) != 0 || !bytes.Equal(f.Crash(true), f.Bytes()) {
		t.Error("a File that New didn't make")
	}
}

// TestMemoryIsItsOwn: what is handed in isn't kept nor changed, what is answered is new.
func TestMemoryIsItsOwn(t *testing.T) {
	given := append(pattern(600, 1), 201, 202, 203)[:600]
	f := made(t, given)
	if !slices.Equal(given[:603], append(pattern(600, 1), 201, 202, 203)) {
		t.Error("New changed what it was given")
	}
	clear(given)
	p := append(pattern(40, 9), 204, 205)[:40]
	ok(t, f.Write(500, p))
	if !slices.Equal(p[:42], append(pattern(40, 9), 204, 205)) {
		t.Error("Write changed what it was given")
	}
	clear(p)
	keep := append([]bool{true, false}, true, true)[:2]
	want := pattern(600, 1)
	copy(want[500:540], pattern(40, 9))
	for range 2 {
		read, _ := f.Read(0, 600)
		for _, b := range [][]byte{read, f.Bytes(), f.Crash(true, true)} {
			if !bytes.Equal(b, want) {
				t.Fatal("bytes are changed from outside")
			}
			clear(b[:cap(b)])
		}
		half := f.Crash(keep...)
		if !bytes.Equal(half[:512], want[:512]) || !bytes.Equal(half[512:], pattern(600, 1)[512:]) {
			t.Fatal("a crash is changed from outside")
		}
		clear(half[:cap(half)])
		clear(f.Crash())
	}
	if !slices.Equal(keep[:4], []bool{true, false, true, true}) {
		t.Error("Crash changed what it was given")
	}
	ok(t, f.Flush())
	if !bytes.Equal(f.Crash(), want) {
		t.Error("what is safe is changed from outside")
	}
}

// TestSafeIsNotSeen: a write behind a Flush isn't safe, where bytes of both were one.
func TestSafeIsNotSeen(t *testing.T) {
	f := made(t, pattern(100, 1))
	for i := range byte(4) {
		ok(t, f.Flush())
		safe := f.Bytes()
		ok(t, f.Write(10, []byte{i, i, i}))
		if !bytes.Equal(f.Crash(), safe) {
			t.Fatal("a write that waits is safe")
		}
		ok(t, f.Truncate(50))
		ok(t, f.Write(40, pattern(60, i)))
		if !bytes.Equal(f.Crash(), safe) {
			t.Fatal("a Truncate that waits is safe")
		}
	}
}
