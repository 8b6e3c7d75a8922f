package tx_test

import (
	"bytes"
	"math"
	"math/rand"
	"slices"
	"testing"

	"fettle/api"
	"fettle/disk"
	"fettle/journal"
	"fettle/tx"
)

// The signatures that the document lists.
var (
	_ func(*journal.Journal) (*tx.Tx, api.Errno)     = tx.Begin
	_ func(*tx.Tx, int64, int64) ([]byte, api.Errno) = (*tx.Tx).Get
	_ func(*tx.Tx, int64, []byte) api.Errno          = (*tx.Tx).Put
	_ func(*tx.Tx, int64, []byte) api.Errno          = (*tx.Tx).Fresh
	_ func(*tx.Tx) int64                             = (*tx.Tx).Size
	_ func(*tx.Tx) api.Errno                         = (*tx.Tx).Commit
	_ func(*tx.Tx) int64                             = (*tx.Tx).Room
	_ func(*tx.Tx) api.Ext                           = (*tx.Tx).Where
	_ func(*tx.Tx, ...journal.Rec) api.Errno         = (*tx.Tx).Apply
	_ func(*tx.Tx) ([]journal.Rec, bool, api.Errno)  = (*tx.Tx).Pending
	_ func(*tx.Tx) (int, api.Errno)                  = (*tx.Tx).Replay
	_ func(*tx.Tx, int64, int64) ([]byte, api.Errno) = (*tx.Tx).Read
	_ func(*tx.Tx) int64                             = (*tx.Tx).Len
)

// extremes: places and lengths with which a sum or a difference would wrap round.
var extremes = []int64{
	math.MinInt64, math.MinInt64 + 1, math.MinInt64 + 512, math.MinInt32, -api.MaxFile - 512, -api.MaxFile, -512, -1,
	api.MaxFile + 1, api.MaxFile + 512, math.MaxInt32, math.MaxInt32 + 1, math.MaxUint32, math.MaxUint32 + 1,
	math.MaxInt64 - 1023, math.MaxInt64 - 511, math.MaxInt64 - 1, math.MaxInt64,
}

// pattern: bytes none of which is 0.
func pattern(n int, seed byte) []byte {
	b := make([]byte, n)
	for i := range b {
		b[i] = byte((i*7+int(seed))%255 + 1)
	}
	return b
}

// blank: a file's bytes, with noughts where its journal is.
func blank(n int, from, size int64) []byte {
	b := pattern(n, 1)
	clear(b[from : from+size])
	return b
}

func file(t *testing.T, b []byte) *disk.File {
	t.Helper()
	f, e := disk.New(b)
	if e != api.OK {
		t.Fatal("disk.New:", e)
	}
	return f
}

func made(t *testing.T, f *disk.File, from, size int64) *journal.Journal {
	t.Helper()
	j, e := journal.New(f, from, size)
	if e != api.OK {
		t.Fatal("journal.New:", e)
	}
	return j
}

func begun(t *testing.T, j *journal.Journal) *tx.Tx {
	t.Helper()
	c, e := tx.Begin(j)
	if e != api.OK || c == nil {
		t.Fatal("Begin:", e)
	}
	return c
}

// ok ends a test where a call that must be done wasn't.
func ok(t *testing.T, e api.Errno) {
	t.Helper()
	if e != api.OK {
		t.Fatal("error", e)
	}
}

// edit is what was Put, or Fresh.
type edit struct {
	at    int64
	p     []byte
	fresh bool
}

// laid: bytes, with others from a place on.
func laid(b []byte, at int64, p []byte) []byte {
	b = slices.Clone(b)
	if lack := int(at) + len(p) - len(b); lack > 0 && len(p) > 0 {
		b = append(b, make([]byte, lack)...)
	}
	if len(p) > 0 {
		copy(b[at:], p)
	}
	return b
}

// model is changes in the document's words: the calls, one behind the other.
type model struct {
	edits []edit
}

// become: a file's bytes, as they become, up to a place; beyond the end noughts.
func (m *model) become(b []byte, to int64) []byte {
	out := make([]byte, max(to, int64(len(b))))
	copy(out, b)
	for _, x := range m.edits {
		out = laid(out, x.at, x.p)
	}
	return out[:to]
}

// sectors: those of which something was Put, rising.
func (m *model) sectors() []int64 {
	var out []int64
	for _, x := range m.edits {
		for i := range x.p {
			if n := (x.at + int64(i)) / 512; !x.fresh && !slices.Contains(out, n) {
				out = append(out, n)
			}
		}
	}
	slices.Sort(out)
	return out
}

// records: the changed sectors, whole, each run of them one.
func (m *model) records(b []byte) []journal.Rec {
	var out []journal.Rec
	last := int64(-2)
	for _, n := range m.sectors() {
		whole := m.become(b, 512*n+512)[512*n:]
		if n == last+1 {
			out[len(out)-1].B = append(out[len(out)-1].B, whole...)
		} else {
			out = append(out, journal.Rec{At: 512 * n, B: slices.Clone(whole)})
		}
		last = n
	}
	return out
}

func (m *model) size() int64 {
	size := int64(0)
	for _, r := range m.records(nil) {
		size += 12 + int64(len(r.B))
	}
	return size
}

// committed: a file's bytes behind the Commit, but for its journal's.
func (m *model) committed(b []byte) []byte {
	recs := m.records(b)
	for _, x := range m.edits {
		if x.fresh {
			b = laid(b, x.at, x.p)
		}
	}
	for _, r := range recs {
		b = laid(b, r.At, r.B)
	}
	return b
}

func (m *model) put(t *testing.T, c *tx.Tx, at int64, p []byte) {
	t.Helper()
	ok(t, c.Put(at, p))
	m.edits = append(m.edits, edit{at: at, p: slices.Clone(p)})
}

func (m *model) fresh(t *testing.T, c *tx.Tx, at int64, p []byte) {
	t.Helper()
	ok(t, c.Fresh(at, p))
	m.edits = append(m.edits, edit{at: at, p: slices.Clone(p), fresh: true})
}

// compare holds what changes tell against the model.
func compare(t *testing.T, c *tx.Tx, m *model, at, n int64) {
	t.Helper()
	got, e := c.Get(at, n)
	if want := m.become(c.Bytes(), at+n)[at:]; e != api.OK || !bytes.Equal(got, want) {
		t.Fatalf("Get(%d, %d): error %d, or other bytes", at, n, e)
	}
	if c.Size() != m.size() {
		t.Fatalf("Size %d, want %d", c.Size(), m.size())
	}
	for i := range got { // an answer is new memory
		got[i] ^= 0xFF
	}
}

func outside(b []byte, part api.Ext) []byte {
	return slices.Concat(b[:part.From], b[part.To:])
}

func TestAnyChanges(t *testing.T) {
	for seed := range int64(150) {
		r := rand.New(rand.NewSource(seed))
		from, size := 512*r.Int63n(4), 512*(2+r.Int63n(12))
		f := file(t, blank(int(from+size)+r.Intn(4000), from, size))
		j := made(t, f, from, size)
		for range 4 {
			changeAtRandom(t, f, j, r)
		}
	}
}

// changeAtRandom: one Tx, with others' writes between, up to its Commit and behind it.
func changeAtRandom(t *testing.T, f *disk.File, j *journal.Journal, r *rand.Rand) {
	t.Helper()
	c, m := begun(t, j), &model{}
	part := j.Where()
	for range r.Intn(14) {
		at := part.To + r.Int63n(5000)
		p := pattern(r.Intn(1400)*r.Intn(2)+r.Intn(5), byte(r.Intn(250)))
		if r.Intn(4) == 0 && part.From > 0 {
			at, p = r.Int63n(part.From), p[:min(len(p), 3)]
			at = min(at, part.From-int64(len(p)))
		}
		switch r.Intn(5) {
		case 0, 1:
			m.put(t, c, at, p)
		case 2:
			m.fresh(t, c, at/512*512, p)
		case 3:
			ok(t, f.Write(at, p[:min(len(p), 40)]))
		}
		compare(t, c, m, r.Int63n(8000), r.Int63n(3000))
	}
	ahead := f.Bytes()
	e := c.Commit()
	if m.size() > j.Room() {
		if e != api.ErrFull || !bytes.Equal(f.Bytes(), ahead) {
			t.Fatal("Commit of more than Room:", e)
		}
		compare(t, c, m, r.Int63n(8000), r.Int63n(3000))
		return
	}
	if want := m.committed(ahead); e != api.OK || !bytes.Equal(outside(f.Bytes(), part), outside(want, part)) || f.Len() != int64(len(want)) {
		t.Fatal("Commit: other bytes, or error", e)
	}
	if len(m.sectors()) > 0 && f.Waiting() != 0 {
		t.Fatal("Commit: writes wait")
	}
	compare(t, c, &model{}, r.Int63n(8000), r.Int63n(3000))
}

func TestExample(t *testing.T) {
	f := file(t, make([]byte, 4096))
	c := begun(t, made(t, f, 1024, 1536))
	ok(t, c.Put(0, []byte("a")))
	if b, e := c.Get(0, 1); string(b) != "a" || e != api.OK || f.Bytes()[0] != 0 {
		t.Error("ahead of the Commit")
	}
	ok(t, c.Commit())
	if f.Bytes()[0] != 'a' || f.Crash()[0] != 'a' {
		t.Error("behind the Commit")
	}
	if _, some, e := c.Pending(); some || e != api.OK {
		t.Error("behind the Commit records count")
	}
}

func TestBegin(t *testing.T) {
	if c, e := tx.Begin(nil); c != nil || e != api.ErrNil {
		t.Error("Begin of no journal:", e)
	}
	f := file(t, pattern(4096, 1))
	j := made(t, f, 1024, 1024)
	c := begun(t, j)
	if c.Journal != j || c.Size() != 0 || f.Ops() != 0 {
		t.Error("Begin")
	}
	compare(t, c, &model{}, 0, 5000)
}

// TestPlaces: what Get, Put and Fresh refuse, at all numbers.
func TestPlaces(t *testing.T) {
	f := file(t, blank(3000, 0, 1024))
	j := made(t, f, 0, 1024)
	numbers := append([]int64{0, 1, 511, 512, 513, 1024, 2999, 3000, 3001, 3072, 4096, api.MaxFile - 513, api.MaxFile - 512, api.MaxFile - 1, api.MaxFile}, extremes...)
	for _, at := range numbers {
		for _, n := range append(numbers, api.MaxFile-at, api.MaxFile-at+1) {
			bad := at < 0 || n < 0 || at > api.MaxFile || n > api.MaxFile || at+n > api.MaxFile
			b, e := begun(t, j).Get(at, n)
			if bad && (e != api.ErrRange || len(b) != 0) || !bad && (e != api.OK || int64(len(b)) != n) {
				t.Errorf("Get(%d, %d): %d bytes, error %d", at, n, len(b), e)
			}
		}
		for _, n := range []int64{0, 1, 2, 511, 512, 513, 1500, api.MaxFile, api.MaxFile + 1} {
			bad := at < 0 || at > api.MaxFile || at+n > api.MaxFile
			p := pattern(int(n), 7)
			for _, call := range []struct {
				name string
				bad  bool
				do   func(c *tx.Tx) api.Errno
			}{
				{"Put", bad, func(c *tx.Tx) api.Errno { return c.Put(at, p) }},
				{"Fresh", bad || at%512 != 0, func(c *tx.Tx) api.Errno { return c.Fresh(at, p) }},
			} {
				c := begun(t, j)
				e := call.do(c)
				if call.bad != (e == api.ErrRange) || !call.bad && e != api.OK {
					t.Errorf("%s(%d, %d bytes): %d", call.name, at, n, e)
				}
				from := min(max(at-3, 0), api.MaxFile)
				to := min(from+n+6, api.MaxFile)
				m := &model{}
				if !call.bad {
					m.edits = []edit{{at, p, call.name == "Fresh"}}
				}
				if n < api.MaxFile {
					compare(t, c, m, from, to-from)
				}
			}
		}
	}
	if f.Wrote() != 0 {
		t.Error("something was written")
	}
}

func TestGetBeyondTheEnd(t *testing.T) {
	f := file(t, blank(3000, 0, 1024))
	c := begun(t, made(t, f, 0, 1024))
	b, e := c.Get(2990, 100)
	if e != api.OK || !bytes.Equal(b, append(f.Bytes()[2990:], make([]byte, 90)...)) {
		t.Error("over the end:", e)
	}
	b, e = c.Get(api.MaxFile-5, 5)
	if e != api.OK || !bytes.Equal(b, make([]byte, 5)) {
		t.Error("at the last place:", e)
	}
	all, e := c.Get(0, api.MaxFile)
	if e != api.OK || len(all) != api.MaxFile || !bytes.Equal(all[:3000], f.Bytes()) || !bytes.Equal(all[3000:], make([]byte, api.MaxFile-3000)) {
		t.Error("all bytes:", e)
	}
}

func TestSize(t *testing.T) {
	c := begun(t, made(t, file(t, blank(20000, 0, 1024)), 0, 1024))
	for i, step := range []struct {
		at   int64
		n    int
		want int64
	}{
		{2000, 0, 0},         // nothing was Put
		{2047, 1, 524},       // sector 3
		{1536, 1, 524},       // 3 again
		{3000, 5, 1048},      // 3; 5
		{2048, 1, 1548},      // 3 to 5
		{2047, 2, 1548},      // again
		{1535, 1, 2060},      // 2 to 5
		{9000, 2000, 4632},   // 17 to 21
		{0, 1, 5156},         // 0
		{4193792, 512, 5680}, // the last one
	} {
		ok(t, c.Put(step.at, make([]byte, step.n)))
		if c.Size() != step.want {
			t.Errorf("step %d: Size %d, want %d", i, c.Size(), step.want)
		}
	}
	ok(t, c.Fresh(12800, make([]byte, 5000)))
	if c.Size() != 5680 {
		t.Error("what is Fresh takes room in the journal:", c.Size())
	}
}

// TestFreshOverPut: what was Put takes the bytes of what is Fresh; and the other way round.
func TestFreshOverPut(t *testing.T) {
	for _, last := range []string{"Fresh", "Put"} {
		f := file(t, blank(6000, 0, 2048))
		j := made(t, f, 0, 2048)
		c, m := begun(t, j), &model{}
		if last == "Fresh" {
			m.put(t, c, 3000, []byte("abcdef"))
			m.fresh(t, c, 2560, pattern(443, 50)) // up to 3003
		} else {
			m.fresh(t, c, 2560, pattern(443, 50))
			m.put(t, c, 3000, []byte("abcdef"))
		}
		compare(t, c, m, 2500, 700)
		if c.Size() != 524 {
			t.Error("Size:", c.Size())
		}
		want := "abcdef"
		if last == "Fresh" {
			want = string(pattern(443, 50)[440:]) + "def"
		}
		if b, _ := c.Get(3000, 6); string(b) != want {
			t.Errorf("%s last: %q, want %q", last, b, want)
		}
		ahead := f.Bytes()
		ok(t, c.Commit())
		if !bytes.Equal(f.Bytes()[2048:], m.committed(ahead)[2048:]) || string(f.Bytes()[3000:3006]) != want {
			t.Errorf("%s last: behind the Commit", last)
		}
	}
}

// TestFreshOverAllThatWasPut: the sector still comes by the journal.
func TestFreshOverAllThatWasPut(t *testing.T) {
	f := file(t, blank(6000, 0, 2048))
	c := begun(t, made(t, f, 0, 2048))
	ok(t, c.Put(2560, pattern(512, 5)))
	ok(t, c.Fresh(2560, pattern(512, 90)))
	if c.Size() != 524 {
		t.Error("Size:", c.Size())
	}
	f.Stop(7) // Get of the sectors, the Fresh one, its flush, the journal's four
	c.Commit()
	f.Stop(0)
	recs, some, _ := c.Pending()
	if !some || len(recs) != 1 || recs[0].At != 2560 || !bytes.Equal(recs[0].B, pattern(512, 90)) {
		t.Error("the record:", recs, some)
	}
}

// TestWhatIsNotPutStays: bytes that others write between a Put and its Commit, in the same sector.
func TestWhatIsNotPutStays(t *testing.T) {
	f := file(t, blank(6000, 0, 2048))
	j := made(t, f, 0, 2048)
	a, b := begun(t, j), begun(t, j)
	ok(t, a.Put(3000, []byte("a")))
	ok(t, b.Put(3001, []byte("b")))
	ok(t, f.Write(3002, []byte("c")))
	if p, e := a.Get(3000, 3); e != api.OK || p[0] != 'a' || p[1] == 'b' || p[2] != 'c' {
		t.Errorf("Get: %q, %d", p, e)
	}
	ok(t, b.Commit())
	if p, _ := a.Get(3000, 3); string(p) != "abc" {
		t.Errorf("Get: %q", p)
	}
	ok(t, a.Commit())
	if string(f.Bytes()[3000:3003]) != "abc" {
		t.Errorf("behind both: %q", f.Bytes()[3000:3003])
	}
}

func TestGivenBytesAreNotKept(t *testing.T) {
	f := file(t, blank(6000, 0, 2048))
	c := begun(t, made(t, f, 0, 2048))
	room := pattern(40, 1)
	ok(t, c.Put(3000, room[:10]))
	ok(t, c.Fresh(4096, room[10:20]))
	ok(t, c.Put(5110, room[20:30]))
	if !bytes.Equal(room, pattern(40, 1)) {
		t.Error("what was handed in is changed")
	}
	clear(room)
	ok(t, c.Commit())
	b := f.Bytes()
	if got := slices.Concat(b[3000:3010], b[4096:4106], b[5110:5120]); !bytes.Equal(got, pattern(40, 1)[:30]) {
		t.Error("what was handed in is kept")
	}
}

func TestCommitIsOnce(t *testing.T) {
	for name, change := range map[string]func(c *tx.Tx) api.Errno{
		"nothing": func(c *tx.Tx) api.Errno { return api.OK },
		"no byte": func(c *tx.Tx) api.Errno { c.Fresh(512, nil); return c.Put(0, []byte{}) },
		"Put":     func(c *tx.Tx) api.Errno { return c.Put(3000, []byte("a")) },
		"Fresh":   func(c *tx.Tx) api.Errno { return c.Fresh(3072, []byte("a")) },
	} {
		f := file(t, blank(6000, 0, 2048))
		c := begun(t, made(t, f, 0, 2048))
		ok(t, change(c))
		ok(t, c.Commit())
		if idle := name == "nothing" || name == "no byte"; idle != (f.Ops() == 0) {
			t.Error(name, "operations:", f.Ops())
		}
		ops, seen := f.Ops(), f.Bytes()
		if c.Commit() != api.ErrState {
			t.Error(name, "Commit again")
		}
		for _, at := range []int64{0, -1, 3000, api.MaxFile + 1, math.MaxInt64, math.MinInt64} {
			if c.Put(at, []byte("b")) != api.ErrState || c.Fresh(at, []byte("b")) != api.ErrState || c.Put(at, nil) != api.ErrState || c.Fresh(at, nil) != api.ErrState {
				t.Error(name, "Put, Fresh behind the Commit")
			}
		}
		if f.Ops() != ops || !bytes.Equal(f.Bytes(), seen) || c.Size() != 0 {
			t.Error(name, "something was done")
		}
		ok(t, f.Write(3000, []byte("later")))
		compare(t, c, &model{}, 2900, 4000)
		if _, e := c.Get(-1, 1); e != api.ErrRange {
			t.Error(name, "Get:", e)
		}
	}
}

// TestOperations: what a Commit asks the file for, but for what it reads.
func TestOperations(t *testing.T) {
	for _, x := range []struct {
		put, fresh   int
		wrote, flush int
	}{{0, 0, 0, 0}, {0, 1, 1, 1}, {0, 3, 3, 1}, {1, 0, 4, 4}, {3, 0, 6, 4}, {2, 2, 7, 5}} {
		f := file(t, blank(20000, 0, 4096))
		c, m := begun(t, made(t, f, 0, 4096)), &model{}
		for i := range int64(x.put) {
			m.put(t, c, 5000+2000*i, []byte("ab"))
		}
		for i := range int64(x.fresh) {
			m.fresh(t, c, 10240+2048*i, pattern(700, 3))
		}
		ops := f.Ops()
		ok(t, c.Commit())
		if reads := f.Ops() - ops - x.wrote - x.flush; f.Wrote() != x.wrote || reads < 0 || reads > x.put || f.Waiting() != 0 {
			t.Errorf("%d Put, %d Fresh: Wrote %d, want %d, %d operations", x.put, x.fresh, f.Wrote(), x.wrote, f.Ops()-ops)
		}
	}
}

// TestOrder: all Fresh are safe ahead of the journal, the records are whole sectors, rising.
func TestOrder(t *testing.T) {
	ahead := blank(9000, 0, 4096)
	for stop := 1; ; stop++ {
		f := file(t, ahead)
		j := made(t, f, 0, 4096)
		c, m := begun(t, j), &model{}
		m.put(t, c, 8990, []byte("over the end"))
		m.put(t, c, 5000, []byte("ab"))
		m.put(t, c, 5119, []byte("cd"))
		m.fresh(t, c, 6656, pattern(600, 3))
		m.fresh(t, c, 6144, pattern(600, 9))
		m.put(t, c, 6144, []byte("over what is Fresh"))
		want := m.records(ahead)
		if len(want) != 3 || want[0].At != 4608 || len(want[0].B) != 1024 || want[1].At != 6144 || want[2].At != 8704 {
			t.Fatal("the model's records:", want)
		}
		f.Stop(stop)
		e := c.Commit()
		f.Stop(0)
		g := file(t, f.Crash())
		recs, some, _ := made(t, g, 0, 4096).Pending()
		if some {
			if len(recs) != 3 {
				t.Fatal("records:", len(recs))
			}
			for i, r := range recs {
				if r.At != want[i].At || !bytes.Equal(r.B, want[i].B) {
					t.Errorf("record %d: %d bytes at %d", i, len(r.B), r.At)
				}
			}
			if b := g.Bytes(); !bytes.Equal(b[6662:6744], pattern(600, 9)[518:]) || !bytes.Equal(b[6744:7256], pattern(600, 3)[88:]) {
				t.Error("a sign ahead of what is Fresh")
			}
		}
		if e == api.OK {
			break
		}
	}
}

func TestFull(t *testing.T) {
	for sectors := int64(1); sectors < 8; sectors++ {
		size := 512 * (sectors + 2) // room for so many in one run, as the body has 512 bytes more than they
		f := file(t, blank(20000, 0, size))
		c := begun(t, made(t, f, 0, size))
		ok(t, c.Fresh(18432, []byte("fresh")))
		ok(t, c.Put(8192, make([]byte, 512*sectors)))
		if c.Size() > c.Room() {
			t.Fatal("so many fit")
		}
		ok(t, c.Put(8192+512*sectors, make([]byte, 512)))
		ops, seen := f.Ops(), f.Bytes()
		for range 2 {
			if e := c.Commit(); e != api.ErrFull || f.Ops() != ops || !bytes.Equal(f.Bytes(), seen) {
				t.Errorf("%d sectors: error %d, or something was done", sectors+1, e)
			}
		}
		ok(t, c.Put(9000, []byte("it isn't committed")))
		if b, e := c.Get(9000, 2); string(b) != "it" || e != api.OK {
			t.Error("Get behind ErrFull:", b, e)
		}
	}
}

// TestJustRoom: a Size of just Room is none too many. Runs of one sector have 524
// bytes; 128 of them are 131 sectors.
func TestJustRoom(t *testing.T) {
	const runs, room = 128, 128 * 524
	f := file(t, blank(300000, 0, room+512))
	j := made(t, f, 0, room+512)
	for _, more := range []int64{0, 1} {
		c := begun(t, j)
		for i := range int64(runs) + more {
			ok(t, c.Put(room+1024+1024*i, []byte{byte(i), 1}))
		}
		if c.Size() != room+524*more || c.Room() != room {
			t.Fatal("Size, Room:", c.Size(), c.Room())
		}
		want := []api.Errno{api.OK, api.ErrFull}[more]
		if e := c.Commit(); e != want {
			t.Errorf("%d runs: %d, want %d", runs+more, e, want)
		}
	}
}

// TestPutIntoTheJournal: its Commit refuses; nothing is written then, Fresh neither.
func TestPutIntoTheJournal(t *testing.T) {
	part := api.Ext{From: 1024, To: 5120}
	for _, x := range []struct {
		at  int64
		n   int
		bad bool
	}{
		{1023, 1, false}, {1023, 2, true}, {1024, 1, true}, {1024, 0, false}, {2000, 5, true}, {5119, 1, true}, {5120, 1, false}, {1000, 1200, true}, {512, 512, false},
	} {
		f := file(t, blank(9000, part.From, part.To-part.From))
		c, m := begun(t, made(t, f, part.From, part.To-part.From)), &model{}
		m.fresh(t, c, 8192, []byte("fresh"))
		m.put(t, c, 7000, []byte("also"))
		m.put(t, c, x.at, pattern(x.n, 1))
		compare(t, c, m, 900, 2500)
		ahead := f.Bytes()
		e := c.Commit()
		if !x.bad {
			if e != api.OK {
				t.Errorf("%d bytes at %d: %d", x.n, x.at, e)
			}
			continue
		}
		if e != api.ErrRange || f.Wrote() != 0 || !bytes.Equal(f.Bytes(), ahead) {
			t.Errorf("%d bytes at %d: %d, or something was written", x.n, x.at, e)
		}
		compare(t, c, m, 900, 2500)
		if e := c.Commit(); e != api.ErrRange {
			t.Error("it isn't committed:", e)
		}
	}
}

func TestNoTx(t *testing.T) {
	for name, c := range map[string]*tx.Tx{"nil": nil, "zero": {}} {
		if b, e := c.Get(0, 1); len(b) != 0 || e != api.ErrNil {
			t.Error(name, "Get:", b, e)
		}
		if b, e := c.Get(-1, 1); len(b) != 0 || e != api.ErrNil {
			t.Error(name, "Get outside:", b, e)
		}
		if c.Put(0, []byte("a")) != api.ErrNil || c.Fresh(0, []byte("a")) != api.ErrNil || c.Put(-1, nil) != api.ErrNil || c.Fresh(-1, nil) != api.ErrNil {
			t.Error(name, "Put, Fresh")
		}
		if c.Size() != 0 || c.Commit() != api.ErrNil {
			t.Error(name, "Size, Commit")
		}
	}
	c := &tx.Tx{Journal: &journal.Journal{}} // a journal that isn't one
	if c.Put(0, []byte("a")) != api.OK || c.Commit() != api.ErrFull {
		t.Error("a journal without a file")
	}
}

// TestATxIsAJournal: it has its journal's calls, and its file's.
func TestATxIsAJournal(t *testing.T) {
	f := file(t, blank(6000, 512, 2048))
	j := made(t, f, 512, 2048)
	c := begun(t, j)
	if c.Room() != 1536 || (c.Where() != api.Ext{From: 512, To: 2560}) || c.Len() != 6000 {
		t.Error("Room, Where, Len")
	}
	ok(t, c.Journal.Commit(journal.Rec{At: 3000, B: []byte("abc")}))
	if n, e := c.Replay(); n != 1 || e != api.OK || string(f.Bytes()[3000:3003]) != "abc" {
		t.Error("Replay:", n, e)
	}
}
