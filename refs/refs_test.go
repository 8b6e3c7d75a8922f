package refs_test

import (
	"bytes"
	"math"
	"math/rand"
	"slices"
	"testing"

	"fettle/api"
	"fettle/disk"
	"fettle/header"
	"fettle/journal"
	"fettle/refs"
	"fettle/tx"
)

// The signatures that the document lists, and the header's that are promoted.
var (
	_ func(header.Header, *tx.Tx) (*refs.Refs, api.Errno) = refs.New
	_ func(*refs.Refs, int64) (int, api.Errno)            = (*refs.Refs).Get
	_ func(*refs.Refs, int64, int) api.Errno              = (*refs.Refs).Set
	_ func(*refs.Refs, int64, int) (int, api.Errno)       = (*refs.Refs).Add
	_ func(*refs.Refs) ([]int, api.Errno)                 = (*refs.Refs).All
	_ func(*refs.Refs) (int64, api.Errno)                 = (*refs.Refs).Alloc
	_ func(*refs.Refs) (int64, int64, api.Errno)          = (*refs.Refs).Ends
	_ func(*refs.Refs) int64                              = (*refs.Refs).Cluster
	_ func(*refs.Refs) int64                              = (*refs.Refs).Entries
	_ func(*refs.Refs) int64                              = (*refs.Refs).Guest
	_ func(*refs.Refs) api.Ext                            = (*refs.Refs).JournalAt
	_ func(*refs.Refs) api.Ext                            = (*refs.Refs).RefsAt
	_ func(*refs.Refs) api.Ext                            = (*refs.Refs).SnapsAt
	_ func(*refs.Refs) api.Ext                            = (*refs.Refs).TopAt
	_ func(*refs.Refs) int64                              = (*refs.Refs).First
	_ func(*refs.Refs) int64                              = (*refs.Refs).Least
	_ func(*refs.Refs) api.Errno                          = (*refs.Refs).Check
	_ func(*refs.Refs) ([]byte, api.Errno)                = (*refs.Refs).Encode
)

// small has few clusters to be given out, and counts that end within a sector.
var small = header.Header{Bits: 9, Size: 32768, Host: 61, Journal: 29}

// several: headers of all kinds of clusters; the last one has nothing to be given out.
var several = []header.Header{
	small,
	{Bits: 9, Size: 65536, Host: 400, Journal: 29},
	{Bits: 9, Size: 65536, Host: 8192, Journal: 59},
	{Bits: 10, Size: 65536, Host: 600, Journal: 25, Backed: true},
	{Bits: 11, Size: 65536, Host: 2048, Journal: 23},
	{Bits: 12, Size: 65536, Host: 100, Journal: 40},
	{Bits: 9, Size: 512, Host: 32, Journal: 28},
}

// clusterExtremes, countExtremes: numbers with which a sum or a product would wrap round.
var (
	clusterExtremes = []int64{
		math.MinInt64, math.MinInt64 + 1, math.MinInt64 + 40, math.MinInt32, -api.MaxFile, -8192, -2, -1,
		api.MaxHost, api.MaxFile, math.MaxInt32, math.MaxUint32, math.MaxUint32 + 1, 1 << 61, 1 << 62, 1<<62 + 40, math.MaxInt64 - 1, math.MaxInt64,
	}
	countExtremes = []int{
		math.MinInt, math.MinInt + 1, math.MinInt + 65535, math.MinInt32, -65537, -65536,
		65536, 65537, 131072, math.MaxInt32, math.MaxUint32, math.MaxUint32 + 1, 1 << 62, math.MaxInt - 65535, math.MaxInt - 1, math.MaxInt,
	}
)

// empty: an image that holds nothing, as bytes, but for its header's: its first
// clusters have the count 1.
func empty(h header.Header) []byte {
	b := make([]byte, h.First()*h.Cluster())
	for n := range h.First() {
		b[h.RefsAt().From+2*n] = 1
	}
	return b
}

// table is an image's counts within changes, with all that is beneath.
type table struct {
	*refs.Refs
	f *disk.File
	j *journal.Journal
	c *tx.Tx
}

func ok(t *testing.T, e api.Errno) {
	t.Helper()
	if e != api.OK {
		t.Fatal("error", e)
	}
}

// over: counts within new changes of a file.
func over(t *testing.T, h header.Header, f *disk.File) table {
	t.Helper()
	at := h.JournalAt()
	j, e := journal.New(f, at.From, at.To-at.From)
	ok(t, e)
	c, e := tx.Begin(j)
	ok(t, e)
	r, e := refs.New(h, c)
	ok(t, e)
	if r == nil {
		t.Fatal("New: no counts")
	}
	return table{r, f, j, c}
}

func opened(t *testing.T, h header.Header, b []byte) table {
	t.Helper()
	f, e := disk.New(b)
	ok(t, e)
	return over(t, h, f)
}

// again: counts within new changes of the same file.
func (x table) again(t *testing.T) table {
	t.Helper()
	return over(t, x.Header, x.f)
}

// ends: what Ends must answer, in the document's words.
func ends(counts []int, first int64) (high, low int64) {
	high, low = -1, -1
	for n := len(counts) - 1; n >= 0; n-- {
		if counts[n] != 0 && high < 0 {
			high = int64(n)
		}
		if counts[n] == 0 && int64(n) >= first {
			low = int64(n)
		}
	}
	return high, low
}

// compare holds all that counts tell against those that they must be.
func compare(t *testing.T, r *refs.Refs, want []int) {
	t.Helper()
	all, e := r.All()
	if e != api.OK || !slices.Equal(all, want) {
		t.Fatalf("All: error %d, or other counts", e)
	}
	for n, count := range want {
		if got, e := r.Get(int64(n)); e != api.OK || got != count {
			t.Fatalf("Get(%d) = %d, %d, want %d", n, got, e, count)
		}
	}
	wantHigh, wantLow := ends(want, r.First())
	if high, low, e := r.Ends(); e != api.OK || high != wantHigh || low != wantLow {
		t.Fatalf("Ends = %d, %d, %d, want %d, %d", high, low, e, wantHigh, wantLow)
	}
}

// begun: the counts of an image that holds nothing.
func begun(h header.Header) []int {
	counts := make([]int, h.Host)
	for n := range h.First() {
		counts[n] = 1
	}
	return counts
}

func TestExample(t *testing.T) {
	for _, h := range several[:len(several)-1] {
		x := opened(t, h, empty(h))
		if high, low, e := x.Ends(); high != h.First()-1 || low != h.First() || e != api.OK {
			t.Error("Ends", high, low, e)
		}
		for i := range int64(2) {
			if n, e := x.Alloc(); n != h.First()+i || e != api.OK {
				t.Error("Alloc", n, e)
			}
		}
		if high, low, e := x.Ends(); high != h.First()+1 || low != h.First()+2 || e != api.OK {
			t.Error("Ends behind", high, low, e)
		}
	}
}

func TestNew(t *testing.T) {
	x := opened(t, small, empty(small))
	for _, h := range []header.Header{
		{}, {Bits: 8, Size: 512, Host: 60, Journal: 29}, {Bits: 9, Size: 513, Host: 60, Journal: 29}, {Bits: 9, Size: 1 << 24, Host: 60, Journal: 29},
		{Bits: 9, Size: 512, Host: 0, Journal: 29}, {Bits: 9, Size: 512, Host: 8193, Journal: 59}, {Bits: 9, Size: 512, Host: 60, Journal: 27},
		{Bits: math.MaxInt, Size: math.MaxInt64, Host: math.MaxInt64, Journal: math.MaxInt64}, {Bits: 9, Size: 512, Host: math.MaxInt64, Journal: 29},
	} {
		if r, e := refs.New(h, x.c); r != nil || e != h.Check() || e == api.OK {
			t.Errorf("New of %+v: %d, want %d", h, e, h.Check())
		}
		if r, e := refs.New(h, nil); r != nil || e != api.ErrNil {
			t.Errorf("New of %+v and nil: %d", h, e)
		}
	}
	if r, e := refs.New(small, nil); r != nil || e != api.ErrNil {
		t.Error("New of nil:", e)
	}
}

// Refs has its header's calls.
func TestPromoted(t *testing.T) {
	for _, h := range several {
		x := opened(t, h, empty(h))
		b, e := x.Encode()
		want, _ := h.Encode()
		if x.Header != h || x.First() != h.First() || x.RefsAt() != h.RefsAt() || x.Check() != api.OK || e != api.OK || !bytes.Equal(b, want) {
			t.Errorf("%+v: other calls than the header's", h)
		}
	}
}

func TestWhatIsThere(t *testing.T) {
	for _, h := range several {
		x := opened(t, h, empty(h))
		compare(t, x.Refs, begun(h))
	}
}

// A count is two bytes, the lowest first.
func TestBytes(t *testing.T) {
	for _, h := range several {
		x := opened(t, h, empty(h))
		for _, n := range []int64{0, 1, h.First() - 1, h.Host / 2, h.Host - 1} {
			ok(t, x.Set(n, 0xA1B2))
			b, e := x.c.Get(h.RefsAt().From+2*n, 2)
			if e != api.OK || b[0] != 0xB2 || b[1] != 0xA1 {
				t.Errorf("%+v: cluster %d: %v, %d", h, n, b, e)
			}
			ok(t, x.c.Put(h.RefsAt().From+2*n, []byte{0x03, 0xFF}))
			if got, e := x.Get(n); got != 0xFF03 || e != api.OK {
				t.Errorf("%+v: Get(%d) = %d, %d", h, n, got, e)
			}
		}
	}
}

// random: a file's bytes that are of any kind, but for the journal's.
func random(h header.Header, r *rand.Rand) []byte {
	b := make([]byte, h.First()*h.Cluster())
	r.Read(b)
	clear(b[h.JournalAt().From:h.JournalAt().To])
	return b
}

// Set changes that count alone, and the file not ahead of the Commit.
func TestSetAlone(t *testing.T) {
	r := rand.New(rand.NewSource(3))
	for _, h := range several {
		for _, n := range []int64{0, 1, 2, h.First() - 1, h.Host / 2, h.Host - 2, h.Host - 1} {
			ahead := random(h, r)
			x := opened(t, h, ahead)
			ok(t, x.Set(n, 0x1234))
			if !bytes.Equal(x.f.Bytes(), ahead) {
				t.Fatal("the file is changed ahead of the Commit")
			}
			want := slices.Clone(ahead)
			copy(want[h.RefsAt().From+2*n:], []byte{0x34, 0x12})
			got, e := x.c.Get(0, int64(len(want)))
			if e != api.OK || !bytes.Equal(got, want) {
				t.Fatalf("%+v: Set(%d) changes other bytes", h, n)
			}
			ok(t, x.c.Commit())
			got = x.f.Bytes()
			clear(got[h.JournalAt().From:h.JournalAt().To])
			if !bytes.Equal(got, want) {
				t.Fatalf("%+v: Set(%d) and Commit change other bytes", h, n)
			}
		}
	}
}

func TestSetEdges(t *testing.T) {
	for _, h := range several {
		x := opened(t, h, empty(h))
		want := begun(h)
		for n := range min(h.Host, 700) {
			for _, count := range []int{1, 255, 256, 65534, 65535, 0} {
				ok(t, x.Set(n, count))
				if got, e := x.Get(n); got != count || e != api.OK {
					t.Fatalf("Set(%d, %d), Get = %d, %d", n, count, got, e)
				}
			}
			ok(t, x.Set(n, int(n*977)%65536))
			want[n] = int(n*977) % 65536
		}
		compare(t, x.Refs, want)
	}
}

func TestRange(t *testing.T) {
	for _, h := range several {
		x := opened(t, h, empty(h))
		for _, n := range append([]int64{h.Host, h.Host + 1}, clusterExtremes...) {
			if got, e := x.Get(n); got != 0 || e != api.ErrRange {
				t.Errorf("Get(%d) = %d, %d", n, got, e)
			}
			for _, count := range append([]int{-1, 0, 1, 65535}, countExtremes...) {
				if e := x.Set(n, count); e != api.ErrRange {
					t.Errorf("Set(%d, %d) = %d", n, count, e)
				}
				if got, e := x.Add(n, count); got != 0 || e != api.ErrRange {
					t.Errorf("Add(%d, %d) = %d, %d", n, count, got, e)
				}
			}
		}
		if x.c.Size() != 0 {
			t.Error("what is refused has changed something")
		}
		compare(t, x.Refs, begun(h))
	}
}

func TestSetLimit(t *testing.T) {
	x := opened(t, small, empty(small))
	for _, count := range append([]int{-1}, countExtremes...) {
		for _, n := range []int64{0, small.First(), small.Host - 1} {
			if e := x.Set(n, count); e != api.ErrLimit {
				t.Errorf("Set(%d, %d) = %d", n, count, e)
			}
		}
	}
	if x.c.Size() != 0 {
		t.Error("what is refused has changed something")
	}
	compare(t, x.Refs, begun(small))
}

func TestAdd(t *testing.T) {
	x := opened(t, small, empty(small))
	bys := append([]int{-65535, -65534, -256, -2, -1, 0, 1, 2, 255, 256, 65534, 65535}, countExtremes...)
	for _, n := range []int64{0, small.First(), small.Host - 1} {
		for _, from := range []int{0, 1, 2, 255, 256, 257, 32768, 65534, 65535} {
			for _, by := range bys {
				ok(t, x.Set(n, from))
				want, wantErr, then := 0, api.OK, from
				switch sum := float64(from) + float64(by); {
				case sum < 0:
					wantErr = api.ErrCount
				case sum > 65535:
					wantErr = api.ErrLimit
				default:
					want, then = from+by, from+by
				}
				if got, e := x.Add(n, by); got != want || e != wantErr {
					t.Errorf("%d: Add(%d) = %d, %d, want %d, %d", from, by, got, e, want, wantErr)
				}
				if got, e := x.Get(n); got != then || e != api.OK {
					t.Errorf("%d: behind Add(%d): %d, %d, want %d", from, by, got, e, then)
				}
			}
		}
	}
}

func TestEnds(t *testing.T) {
	first, last := small.First(), small.Host-1
	for _, x := range []struct {
		name      string
		set       func(counts []int)
		high, low int64
	}{
		{"nothing is referred to", func(c []int) { clear(c) }, -1, first},
		{"an empty image", func(c []int) {}, first - 1, first},
		{"the first cluster alone", func(c []int) { clear(c); c[0] = 1 }, 0, first},
		{"the last alone", func(c []int) { clear(c); c[last] = 1 }, last, first},
		{"all below the last", func(c []int) { fill(c[:last], 7) }, last - 1, last},
		{"all", func(c []int) { fill(c, 65535) }, last, -1},
		{"all but some below First", func(c []int) { fill(c, 256); c[0], c[first-1] = 0, 0 }, last, -1},
		{"all but the first to be given out", func(c []int) { fill(c, 1); c[first] = 0 }, last, first},
		{"a hole", func(c []int) { fill(c[:first+5], 1); c[first+2] = 0 }, first + 4, first + 2},
		{"two holes", func(c []int) { fill(c[:first+9], 2); c[first+7], c[first+3] = 0, 0 }, first + 8, first + 3},
	} {
		counts := begun(small)
		x.set(counts)
		y := opened(t, small, make([]byte, small.First()*512))
		for n, count := range counts {
			ok(t, y.Set(int64(n), count))
		}
		if high, low, e := y.Ends(); high != x.high || low != x.low || e != api.OK {
			t.Errorf("%s: Ends = %d, %d, %d, want %d, %d", x.name, high, low, e, x.high, x.low)
		}
		n, e := y.Alloc()
		if x.low >= 0 && (n != x.low || e != api.OK) || x.low < 0 && (n != 0 || e != api.ErrFull) {
			t.Errorf("%s: Alloc = %d, %d, want %d", x.name, n, e, x.low)
		}
		if x.low >= 0 {
			counts[x.low] = 1
		}
		compare(t, y.Refs, counts)
	}
}

func fill(counts []int, v int) {
	for n := range counts {
		counts[n] = v
	}
}

// An image whose file has no cluster behind its first ones.
func TestNothingToGiveOut(t *testing.T) {
	h := several[len(several)-1]
	if h.First() != h.Host {
		t.Fatal("another header is needed")
	}
	x := opened(t, h, empty(h))
	if high, low, e := x.Ends(); high != h.Host-1 || low != -1 || e != api.OK {
		t.Error("Ends", high, low, e)
	}
	ok(t, x.Set(0, 0))
	if n, e := x.Alloc(); n != 0 || e != api.ErrFull {
		t.Error("Alloc", n, e)
	}
	if got, _ := x.Get(0); got != 0 {
		t.Error("what is refused has changed a count")
	}
}

// Till nothing is free: each cluster once, rising.
func TestAllocTillFull(t *testing.T) {
	for _, h := range []header.Header{small, several[3], several[5]} {
		x := opened(t, h, empty(h))
		counts := begun(h)
		for want := h.First(); want < h.Host; want++ {
			n, e := x.Alloc()
			if n != want || e != api.OK {
				t.Fatalf("Alloc = %d, %d, want %d", n, e, want)
			}
			counts[n] = 1
		}
		for range 3 {
			if n, e := x.Alloc(); n != 0 || e != api.ErrFull {
				t.Fatal("Alloc of nothing", n, e)
			}
		}
		compare(t, x.Refs, counts)
	}
}

// allocModel: the lowest from First on whose count is 0, given out.
func allocModel(counts []int, first int64) (int64, api.Errno) {
	for n := first; n < int64(len(counts)); n++ {
		if counts[n] == 0 {
			counts[n] = 1
			return n, api.OK
		}
	}
	return 0, api.ErrFull
}

// upAndDown: a call, on counts and on those that they must be.
func upAndDown(t *testing.T, r *refs.Refs, counts []int, rnd *rand.Rand) {
	t.Helper()
	n := rnd.Int63n(r.Host)
	switch k := rnd.Intn(10); {
	case k < 5:
		want, wantErr := allocModel(counts, r.First())
		if got, e := r.Alloc(); got != want || e != wantErr {
			t.Fatalf("Alloc = %d, %d, want %d, %d", got, e, want, wantErr)
		}
	case k < 8:
		by := []int{-1, -1, -1, 1, 1, -2, 2, 65535, -65535, 300}[rnd.Intn(10)]
		want, wantErr := counts[n]+by, api.OK
		if want < 0 {
			want, wantErr = 0, api.ErrCount
		} else if want > 65535 {
			want, wantErr = 0, api.ErrLimit
		} else {
			counts[n] = want
		}
		if got, e := r.Add(n, by); got != want || e != wantErr {
			t.Fatalf("Add(%d, %d) = %d, %d, want %d, %d", n, by, got, e, want, wantErr)
		}
	default:
		count := []int{0, 0, 0, 1, 2, 255, 256, 65535}[rnd.Intn(8)]
		counts[n] = count
		if e := r.Set(n, count); e != api.OK {
			t.Fatalf("Set(%d, %d) = %d", n, count, e)
		}
	}
}

// Counts that go up and down, clusters that are given out between, through
// several changes, some of which are committed, some forgotten.
func TestUpAndDown(t *testing.T) {
	for seed := range int64(60) {
		rnd := rand.New(rand.NewSource(seed))
		h := several[rnd.Intn(len(several))]
		if h.Host > 1000 {
			h = small
		}
		x := opened(t, h, empty(h))
		counts := begun(h)
		for range 4 {
			ahead := slices.Clone(counts)
			for range 80 {
				upAndDown(t, x.Refs, counts, rnd)
			}
			compare(t, x.Refs, counts)
			if rnd.Intn(3) == 0 {
				counts = ahead
			} else {
				ok(t, x.c.Commit())
				compare(t, x.Refs, counts)
			}
			x = x.again(t)
			compare(t, x.Refs, counts)
		}
	}
}

// Full, one given back, again the same one given out, wherever it is.
func TestGivenBack(t *testing.T) {
	x := opened(t, small, empty(small))
	for range small.Host - small.First() {
		_, e := x.Alloc()
		ok(t, e)
	}
	for n := small.Host - 1; n >= small.First(); n-- {
		if _, e := x.Add(n, 1); e != api.OK {
			t.Fatal(e)
		}
		for range 2 {
			if _, e := x.Alloc(); e != api.ErrFull {
				t.Fatalf("%d is referred to: Alloc answers %d", n, e)
			}
			if _, e := x.Add(n, -1); e != api.OK {
				t.Fatal(e)
			}
		}
		if got, e := x.Alloc(); got != n || e != api.OK {
			t.Fatalf("Alloc = %d, %d, want %d", got, e, n)
		}
	}
}

// Counts beyond the file's end are 0.
func TestShortFile(t *testing.T) {
	for _, h := range several[:2] {
		full := empty(h)
		for _, length := range []int64{h.JournalAt().To, h.RefsAt().From + 1, h.RefsAt().From + 41, h.RefsAt().To - 2} {
			x := opened(t, h, full[:length])
			counts := make([]int, h.Host)
			for n := range h.First() {
				if h.RefsAt().From+2*n < length {
					counts[n] = 1
				}
			}
			compare(t, x.Refs, counts)
			want, _ := allocModel(counts, h.First())
			if n, e := x.Alloc(); n != want || e != api.OK {
				t.Errorf("Alloc = %d, %d, want %d", n, e, want)
			}
			ok(t, x.c.Commit())
			compare(t, x.again(t).Refs, counts)
		}
	}
}

// All that counts tell is within the changes: two of one Tx are the same.
func TestTwoOfOneTx(t *testing.T) {
	x := opened(t, small, empty(small))
	y, e := refs.New(small, x.c)
	ok(t, e)
	n, _ := x.Alloc()
	m, _ := y.Alloc()
	if n != small.First() || m != n+1 {
		t.Error("Alloc", n, m)
	}
	counts := begun(small)
	counts[n], counts[m] = 1, 1
	compare(t, x.Refs, counts)
	compare(t, y, counts)
	z := x.again(t) // other changes: they know nothing of these
	compare(t, z.Refs, begun(small))
}

// Behind the Commit counts are read, and not changed.
func TestCommitted(t *testing.T) {
	x := opened(t, small, empty(small))
	n, e := x.Alloc()
	ok(t, e)
	ok(t, x.c.Commit())
	counts := begun(small)
	counts[n] = 1
	if got, e := x.Alloc(); got != 0 || e != api.ErrState {
		t.Error("Alloc", got, e)
	}
	if e := x.Set(n, 2); e != api.ErrState {
		t.Error("Set", e)
	}
	if got, e := x.Add(n, 1); got != 0 || e != api.ErrState {
		t.Error("Add", got, e)
	}
	if e := x.Set(small.Host, 2); e != api.ErrRange {
		t.Error("Set beyond", e)
	}
	compare(t, x.Refs, counts)
	compare(t, x.again(t).Refs, counts)
}

// calls: each call that reads the file, and what it answers beside the error is zero.
func calls(r *refs.Refs, n int64) map[string]func() (bool, api.Errno) {
	return map[string]func() (bool, api.Errno){
		"Get":   func() (bool, api.Errno) { v, e := r.Get(n); return v == 0, e },
		"Add":   func() (bool, api.Errno) { v, e := r.Add(n, 1); return v == 0, e },
		"All":   func() (bool, api.Errno) { v, e := r.All(); return len(v) == 0, e },
		"Alloc": func() (bool, api.Errno) { v, e := r.Alloc(); return v == 0, e },
		"Ends":  func() (bool, api.Errno) { high, low, e := r.Ends(); return high == 0 && low == 0, e },
	}
}

// The file's errors come through; nothing is changed then.
func TestFileRefuses(t *testing.T) {
	for _, refuse := range []func(*disk.File){func(f *disk.File) { f.Refuse(1) }, func(f *disk.File) { f.Stop(1) }} {
		x := opened(t, small, empty(small))
		for name, call := range calls(x.Refs, small.First()-1) {
			refuse(x.f)
			if zero, e := call(); !zero || e != api.ErrIO {
				t.Errorf("%s: %d, or another answer beside", name, e)
			}
			x.f.Stop(0)
			compare(t, x.Refs, begun(small))
		}
	}
}

// One operation of each, one behind the other, is refused: the answer is ErrIO, or as ever.
func TestEachOperationRefused(t *testing.T) {
	for k := 1; k < 6; k++ {
		x := opened(t, small, empty(small))
		counts := begun(small)
		x.f.Refuse(k)
		n, e := x.Alloc()
		switch e {
		case api.OK:
			counts[small.First()] = 1
			if n != small.First() {
				t.Error("Alloc", n)
			}
		case api.ErrIO:
			if n != 0 {
				t.Error("Alloc", n, e)
			}
		default:
			t.Error("Alloc", n, e)
		}
		x.f.Refuse(0)
		compare(t, x.Refs, counts)
	}
}

// No counts: nil, those that New didn't make, those of a Tx that Begin didn't.
func TestNone(t *testing.T) {
	bare, _ := refs.New(small, new(tx.Tx))
	for _, r := range []*refs.Refs{nil, new(refs.Refs), {Header: small}, bare} {
		for name, call := range calls(r, 0) {
			if zero, e := call(); !zero || e != api.ErrNil {
				t.Errorf("%s: %d, or another answer beside", name, e)
			}
		}
		if e := r.Set(0, 1); e != api.ErrNil {
			t.Error("Set", e)
		}
	}
	var r *refs.Refs
	for _, n := range clusterExtremes {
		if _, e := r.Get(n); e != api.ErrNil {
			t.Errorf("Get(%d) = %d", n, e)
		}
		if e := r.Set(n, math.MinInt); e != api.ErrNil {
			t.Errorf("Set(%d) = %d", n, e)
		}
		if _, e := r.Add(n, math.MaxInt); e != api.ErrNil {
			t.Errorf("Add(%d) = %d", n, e)
		}
	}
}

// All answers new memory.
func TestNewMemory(t *testing.T) {
	x := opened(t, small, empty(small))
	a, _ := x.All()
	b, _ := x.All()
	fill(a, 9)
	if !slices.Equal(b, begun(small)) {
		t.Error("two answers share memory")
	}
	compare(t, x.Refs, begun(small))
}

// A crash in the Commit: behind a Replay all counts are as ahead, or all as they became.
func TestCrash(t *testing.T) {
	rnd := rand.New(rand.NewSource(11))
	for stop := 1; stop < 12; stop++ {
		x := opened(t, small, empty(small))
		ahead, counts := begun(small), begun(small)
		for range 60 {
			upAndDown(t, x.Refs, counts, rnd)
		}
		x.f.Stop(stop)
		e := x.c.Commit()
		for range 20 {
			keep := make([]bool, x.f.Waiting())
			for i := range keep {
				keep[i] = rnd.Intn(2) == 0
			}
			f, _ := disk.New(x.f.Crash(keep...))
			y := over(t, small, f)
			_, replay := y.j.Replay()
			ok(t, replay)
			got, _ := y.All()
			if !slices.Equal(got, counts) && (e == api.OK || !slices.Equal(got, ahead)) {
				t.Fatalf("stopped at %d: neither all counts nor none", stop)
			}
		}
	}
}
