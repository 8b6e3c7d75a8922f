package journal_test

import (
	"bytes"
	"encoding/binary"
	"hash/crc32"
	"math"
	"math/rand"
	"slices"
	"testing"

	"fettle/api"
	"fettle/disk"
	"fettle/journal"
)

// The signatures that the document lists.
var (
	_ func(*disk.File, int64, int64) (*journal.Journal, api.Errno) = journal.New
	_ func(*journal.Journal) int64                                 = (*journal.Journal).Room
	_ func(*journal.Journal) api.Ext                               = (*journal.Journal).Where
	_ func(...journal.Rec) []byte                                  = journal.Encode
	_ func([]byte, int) ([]journal.Rec, api.Errno)                 = journal.Decode
	_ func(*journal.Journal, ...journal.Rec) api.Errno             = (*journal.Journal).Commit
	_ func(*journal.Journal, ...journal.Rec) api.Errno             = (*journal.Journal).Apply
	_ func(*journal.Journal) api.Errno                             = (*journal.Journal).Clear
	_ func(*journal.Journal) ([]journal.Rec, bool, api.Errno)      = (*journal.Journal).Pending
	_ func(*journal.Journal) (int, api.Errno)                      = (*journal.Journal).Replay
	_ func(*journal.Journal, int64, int64) ([]byte, api.Errno)     = (*journal.Journal).Read
	_ func(*journal.Journal, int64, []byte) api.Errno              = (*journal.Journal).Write
	_ func(*journal.Journal, int64) api.Errno                      = (*journal.Journal).Truncate
	_ func(*journal.Journal) api.Errno                             = (*journal.Journal).Flush
	_ func(*journal.Journal, ...bool) []byte                       = (*journal.Journal).Crash
	_ func(*journal.Journal) int64                                 = (*journal.Journal).Len
	_ func(*journal.Journal) []byte                                = (*journal.Journal).Bytes
	_                                                              = [1]int{}[journal.Magic-0x314A5446] + [1]int{}[journal.Head-12]
)

// extremes: places, lengths and sizes with which a sum or a difference would wrap round.
var extremes = []int64{
	math.MinInt64, math.MinInt64 + 1, math.MinInt64 + 512, math.MinInt32, -api.MaxFile - 512, -api.MaxFile, -1024, -512, -1,
	api.MaxFile + 1, api.MaxFile + 512, math.MaxInt32, math.MaxInt32 + 1, math.MaxUint32, math.MaxUint32 + 1,
	math.MaxInt64 - 1023, math.MaxInt64 - 511, math.MaxInt64 - 1, math.MaxInt64,
}

func rec(at int64, b string) journal.Rec { return journal.Rec{At: at, B: []byte(b)} }

// pattern: bytes none of which is 0.
func pattern(n int, seed byte) []byte {
	b := make([]byte, n)
	for i := range b {
		b[i] = byte((i*7+int(seed))%255 + 1)
	}
	return b
}

func file(t *testing.T, b []byte) *disk.File {
	t.Helper()
	f, e := disk.New(b)
	if e != api.OK {
		t.Fatal("disk.New:", e)
	}
	return f
}

func made(t *testing.T, f *disk.File, from, size int64) *journal.Journal {
	t.Helper()
	j, e := journal.New(f, from, size)
	if e != api.OK || j == nil {
		t.Fatal("New:", e)
	}
	return j
}

// ok ends a test where a call that must be done wasn't.
func ok(t *testing.T, e api.Errno) {
	t.Helper()
	if e != api.OK {
		t.Fatal("error", e)
	}
}

// bodyOf: records as bytes, in the document's words.
func bodyOf(recs ...journal.Rec) []byte {
	var b []byte
	for _, r := range recs {
		b = binary.LittleEndian.AppendUint64(b, uint64(r.At))
		b = binary.LittleEndian.AppendUint32(b, uint32(len(r.B)))
		b = append(b, r.B...)
	}
	return b
}

// signOf: a sign, in the document's words.
func signOf(magic uint32, number uint64, count, length, sum uint32) []byte {
	var b []byte
	b = binary.LittleEndian.AppendUint32(b, magic)
	b = binary.LittleEndian.AppendUint64(b, number)
	b = binary.LittleEndian.AppendUint32(b, count)
	b = binary.LittleEndian.AppendUint32(b, length)
	b = binary.LittleEndian.AppendUint32(b, sum)
	b = binary.LittleEndian.AppendUint32(b, crc32.ChecksumIEEE(b))
	return append(b, make([]byte, 512-len(b))...)
}

// partOf: the bytes of a journal's part, with these records.
func partOf(size int, number uint64, recs ...journal.Rec) []byte {
	body := bodyOf(recs...)
	b := make([]byte, size)
	copy(b, signOf(0x314A5446, number, uint32(len(recs)), uint32(len(body)), crc32.ChecksumIEEE(body)))
	copy(b[512:], body)
	return b
}

func sameRecs(a, b []journal.Rec) bool {
	return slices.EqualFunc(a, b, func(x, y journal.Rec) bool { return x.At == y.At && bytes.Equal(x.B, y.B) })
}

// laid: bytes with records done on them, one behind the other.
func laid(b []byte, recs ...journal.Rec) []byte {
	b = slices.Clone(b)
	for _, r := range recs {
		if lack := int(r.At) + len(r.B) - len(b); lack > 0 && len(r.B) > 0 {
			b = append(b, make([]byte, lack)...)
		}
		if len(r.B) > 0 {
			copy(b[r.At:], r.B)
		}
	}
	return b
}

func TestNew(t *testing.T) {
	for _, size := range []int64{0, 511, 512, 1023, 1024, 1025, 1536, 5000} {
		f := file(t, pattern(int(size), 1))
		numbers := append([]int64{0, 1, 511, 512, 513, 1023, 1024, 1025, 1536, 2048, 3584, 4096, 4608, 5000, 5120, size, api.MaxFile}, extremes...)
		for _, from := range numbers {
			for _, n := range numbers {
				want := api.OK
				switch {
				case from < 0 || from%512 != 0 || n%512 != 0:
					want = api.ErrAlign
				case n < 1024 || from > size || n > size || from+n > size:
					want = api.ErrRange
				}
				j, e := journal.New(f, from, n)
				if e != want || (j != nil) != (want == api.OK) {
					t.Fatalf("New(%d bytes, %d, %d): %d, want %d", size, from, n, e, want)
				}
				if e == api.OK && (j.Room() != n-512 || j.Where() != api.Ext{From: from, To: from + n}) {
					t.Errorf("New(%d bytes, %d, %d): Room %d, Where %v", size, from, n, j.Room(), j.Where())
				}
			}
		}
		if f.Ops() != 0 || !bytes.Equal(f.Bytes(), pattern(int(size), 1)) {
			t.Error("New changed the file, or asked it for something")
		}
	}
	for _, n := range []int64{-1, 0, 1, 1024} {
		if j, e := journal.New(nil, n, n); j != nil || e != api.ErrNil {
			t.Error("New of no file:", e)
		}
	}
	f := file(t, make([]byte, api.MaxFile))
	if j := made(t, f, 0, api.MaxFile); j.Room() != api.MaxFile-512 {
		t.Error("a journal that is all of the greatest file")
	}
}

func TestEncode(t *testing.T) {
	if len(journal.Encode()) != 0 || len(journal.Encode(nil...)) != 0 {
		t.Error("no record")
	}
	want := []byte{0x03, 0x02, 1, 0, 0, 0, 0, 0, 2, 0, 0, 0, 'a', 'b', 1, 0, 0, 0, 0, 0, 0, 0, 0, 0, 0, 0}
	if got := journal.Encode(rec(0x10203, "ab"), rec(1, "")); !bytes.Equal(got, want) {
		t.Error("two records:", got)
	}
	for _, at := range append([]int64{0, 1, 255, 256, 65536, api.MaxFile}, extremes...) {
		for _, n := range []int{0, 1, 2, 255, 256, 65536} {
			r := journal.Rec{At: at, B: pattern(n, 3)}
			if got := journal.Encode(r, r); !bytes.Equal(got, bodyOf(r, r)) {
				t.Errorf("%d bytes at %d", n, at)
			}
		}
	}
}

func TestEncodeLeavesWhatItIsGiven(t *testing.T) {
	room := pattern(20, 1)
	recs := []journal.Rec{{At: 1, B: room[2:5]}, {At: 2, B: room[5:6]}, rec(9, "spare")}
	b := journal.Encode(recs[:2]...)
	for i := range b {
		b[i] = 0
	}
	if !bytes.Equal(room, pattern(20, 1)) || recs[2].At != 9 || recs[0].At != 1 {
		t.Error("a record is changed")
	}
}

// decoded: what Decode answers, in the document's words.
func decoded(b []byte, count int) ([]journal.Rec, bool) {
	var recs []journal.Rec
	for ; count > 0; count-- {
		if len(b) < 12 {
			return nil, false
		}
		at, n := binary.LittleEndian.Uint64(b), uint64(binary.LittleEndian.Uint32(b[8:]))
		b = b[12:]
		if at > 4194304 || n > uint64(len(b)) {
			return nil, false
		}
		recs = append(recs, journal.Rec{At: int64(at), B: b[:n]})
		b = b[n:]
	}
	return recs, len(b) == 0
}

func checkDecode(t *testing.T, b []byte, count int) {
	t.Helper()
	ahead := slices.Clone(b)
	got, e := journal.Decode(b, count)
	want, right := decoded(b, count)
	switch {
	case !right && (e != api.ErrForm || len(got) != 0):
		t.Errorf("Decode(%v, %d): %v, %d; want ErrForm", b, count, got, e)
	case right && (e != api.OK || !sameRecs(got, want)):
		t.Errorf("Decode(%v, %d): %v, %d; want %v", b, count, got, e, want)
	}
	for _, r := range got {
		for i := range r.B {
			r.B[i]++
		}
		_ = append(r.B, 1, 2, 3)
	}
	if !bytes.Equal(b, ahead) {
		t.Fatal("an answer shares memory with the bytes")
	}
}

func TestDecode(t *testing.T) {
	bodies := [][]byte{
		nil,
		bodyOf(rec(0, "")),
		bodyOf(rec(5, "abc")),
		bodyOf(rec(5, "abc"), rec(5, ""), rec(0, "x")),
		bodyOf(rec(api.MaxFile, ""), rec(api.MaxFile, "beyond")),
		bodyOf(rec(api.MaxFile+1, "")),
		bodyOf(rec(1, "a"), rec(api.MaxFile+1, "b")),
		bodyOf(rec(math.MaxInt64, "a")), bodyOf(rec(math.MinInt64, "a")), bodyOf(rec(-1, "a")),
	}
	for _, body := range bodies {
		for cut := range len(body) + 1 {
			for _, count := range []int{-1, 0, 1, 2, 3, 4, math.MaxInt, math.MinInt, math.MaxInt32, math.MaxUint32} {
				checkDecode(t, body[:cut:cut], count)
			}
		}
		for _, count := range []int{0, 1, 2, 3, 4} {
			checkDecode(t, append(slices.Clone(body), 0), count)
			checkDecode(t, append(slices.Clone(body), make([]byte, 12)...), count)
		}
	}
	for _, n := range []uint32{4, 0x80000000, 0xFFFFFFFF, 0xFFFFFFF4, 0x7FFFFFFF} {
		b := bodyOf(rec(5, "abc"))
		binary.LittleEndian.PutUint32(b[8:], n)
		checkDecode(t, b, 1)
	}
}

func TestDecodeAnyBytes(t *testing.T) {
	r := rand.New(rand.NewSource(1))
	for range 20000 {
		b := make([]byte, r.Intn(80))
		for i := range b {
			if i%3 == r.Intn(3) && r.Intn(3) == 0 {
				b[i] = byte(r.Intn(20))
			}
		}
		checkDecode(t, b, r.Intn(8)-1)
	}
	for range 2000 {
		var recs []journal.Rec
		for range r.Intn(6) {
			recs = append(recs, journal.Rec{At: r.Int63n(api.MaxFile + 1), B: pattern(r.Intn(40), byte(r.Intn(99)))})
		}
		b := journal.Encode(recs...)
		got, e := journal.Decode(b, len(recs))
		if e != api.OK || !sameRecs(got, recs) {
			t.Fatal("what is encoded isn't decoded as it was")
		}
		for i := range b {
			b[i] = 0xEE
		}
		if !sameRecs(got, recs) {
			t.Fatal("a record is kept within the bytes")
		}
	}
}

// TestDecodedRecordsShareNothing: to change one record, in its spare room too, changes no other.
func TestDecodedRecordsShareNothing(t *testing.T) {
	b := bodyOf(rec(1, "aaaa"), rec(2, "bbbb"), rec(3, "cccc"))
	recs, e := journal.Decode(b, 3)
	ok(t, e)
	for i := range recs {
		whole := recs[i].B[:cap(recs[i].B)]
		for k := range whole {
			whole[k] = 'z'
		}
		for k := i + 1; k < 3; k++ {
			if !bytes.Equal(recs[k].B, []byte{"abc"[k], "abc"[k], "abc"[k], "abc"[k]}) {
				t.Error("records share memory")
			}
		}
	}
}

func TestCommitWrites(t *testing.T) {
	ahead := pattern(8192, 1)
	f := file(t, ahead)
	j := made(t, f, 1024, 2048)
	recs := []journal.Rec{rec(4096, "abc"), rec(0, ""), rec(4097, string(pattern(700, 9)))}
	for number := range uint64(3) {
		ops, wrote := f.Ops(), f.Wrote()
		ok(t, j.Commit(recs...))
		want := slices.Clone(ahead)
		copy(want[1536:], bodyOf(recs...))
		copy(want[1024:], partOf(2048, number+1, recs...)[:512])
		if !bytes.Equal(f.Bytes(), want) || !bytes.Equal(f.Crash(), want) {
			t.Errorf("Commit %d: the journal's bytes, or others", number)
		}
		if f.Ops() != ops+4 || f.Wrote() != wrote+2 || f.Waiting() != 0 {
			t.Errorf("Commit %d: %d operations, %d writes, %d wait", number, f.Ops()-ops, f.Wrote()-wrote, f.Waiting())
		}
	}
}

// TestCommitIsInOrder: the body is safe ahead of the sign, the sign behind the Commit.
func TestCommitIsInOrder(t *testing.T) {
	recs := []journal.Rec{rec(4096, string(pattern(900, 3)))}
	body := bodyOf(recs...)
	for n, want := range []struct{ bodySeen, bodySafe, signSeen, signSafe bool }{
		{}, {bodySeen: true}, {bodySeen: true, bodySafe: true}, {bodySeen: true, bodySafe: true, signSeen: true}, {true, true, true, true},
	} {
		f := file(t, make([]byte, 8192))
		j := made(t, f, 0, 2048)
		f.Stop(n + 1)
		if e := j.Commit(recs...); e != api.ErrIO && n < 4 || e != api.OK && n == 4 {
			t.Errorf("stopped at operation %d: error %d", n+1, e)
		}
		if n < 4 && f.Ops() != n+1 {
			t.Errorf("stopped at operation %d: went on", n+1)
		}
		has := func(b []byte, at int, p []byte) bool { return bytes.Equal(b[at:at+len(p)], p) }
		sign := partOf(2048, 1, recs...)[:512]
		if has(f.Bytes(), 512, body) != want.bodySeen || has(f.Crash(), 512, body) != want.bodySafe || has(f.Bytes(), 0, sign) != want.signSeen || has(f.Crash(), 0, sign) != want.signSafe {
			t.Errorf("behind %d operations: the body or the sign", n)
		}
	}
}

func TestCommitOfNothing(t *testing.T) {
	f := file(t, pattern(4096, 1))
	j := made(t, f, 512, 1024)
	ok(t, j.Commit())
	want := pattern(4096, 1)
	copy(want[512:], signOf(0x314A5446, 1, 0, 0, 0))
	if !bytes.Equal(f.Bytes(), want) || f.Ops() != 4 {
		t.Error("Commit of no record")
	}
	recs, some, e := j.Pending()
	if len(recs) != 0 || some || e != api.OK {
		t.Error("Pending: no record is there to count:", recs, some, e)
	}
	if n, e := j.Replay(); n != 0 || e != api.OK || !bytes.Equal(f.Bytes(), want) {
		t.Error("Replay: no record counts:", n, e)
	}
}

// mayBe: may a record be written? In the document's words, byte by byte.
func mayBe(r journal.Rec, part api.Ext) bool {
	if r.At < 0 || r.At > api.MaxFile || r.At+int64(len(r.B)) > api.MaxFile {
		return false
	}
	for i := range r.B {
		if at := r.At + int64(i); at >= part.From && at < part.To {
			return false
		}
	}
	return true
}

// places: records at all edges of a part, of the file's greatest size, and of numbers.
func places(part api.Ext) []journal.Rec {
	var out []journal.Rec
	for _, n := range []int{0, 1, 2, 512, 1024, 1536} {
		size := int64(n)
		ats := []int64{0, 1, part.From, part.From - 1, part.From - size, part.From - size + 1, part.From + 1, part.To, part.To - 1, part.To - size, part.To + 1, api.MaxFile, api.MaxFile - size, api.MaxFile - size + 1, api.MaxFile - size - 1}
		for _, at := range append(ats, extremes...) {
			out = append(out, journal.Rec{At: at, B: pattern(n, 5)})
		}
	}
	return out
}

func TestCommitRefuses(t *testing.T) {
	f := file(t, make([]byte, 8192))
	j := made(t, f, 2048, 2560)
	good := rec(100, "good")
	full := journal.Rec{At: 5000, B: make([]byte, j.Room()-12)}
	over := journal.Rec{At: 5000, B: make([]byte, j.Room()-11)}
	for _, r := range places(j.Where()) {
		barred := !mayBe(r, j.Where())
		for _, recs := range [][]journal.Rec{{r}, {good, r}, {r, good}, {r, over}, {over, r}} {
			want := api.OK
			switch {
			case barred:
				want = api.ErrRange
			case len(bodyOf(recs...)) > int(j.Room()):
				want = api.ErrFull
			}
			seen, ops := f.Bytes(), f.Ops()
			if e := j.Commit(recs...); e != want {
				t.Errorf("Commit of %d bytes at %d, among %d: %d, want %d", len(r.B), r.At, len(recs), e, want)
			}
			if want != api.OK && (f.Ops() != ops || !bytes.Equal(f.Bytes(), seen)) {
				t.Errorf("Commit of %d bytes at %d: error %d, but something was done", len(r.B), r.At, want)
			}
		}
	}
	ok(t, j.Clear())
	ok(t, j.Commit(full))
	if got, some, e := j.Pending(); !some || e != api.OK || !sameRecs(got, []journal.Rec{full}) {
		t.Error("a body of just Room bytes doesn't count")
	}
	many := slices.Repeat([]journal.Rec{{}}, int(j.Room()/12))
	ok(t, j.Commit(many...))
	if got, some, _ := j.Pending(); !some || !sameRecs(got, many) {
		t.Error("Room / 12 records don't count")
	}
	if e := j.Commit(append(many, journal.Rec{})...); e != api.ErrFull {
		t.Error("a record more than Room / 12:", e)
	}
	huge := journal.Rec{At: 0, B: make([]byte, api.MaxFile)}
	if e := j.Commit(journal.Rec{At: api.MaxFile - 4096, B: huge.B[:4096]}); e != api.ErrFull {
		t.Error("more than Room:", e)
	}
	if e := j.Commit(huge); e != api.ErrRange {
		t.Error("all of the greatest file:", e)
	}
	if e := j.Commit(journal.Rec{At: 0, B: make([]byte, api.MaxFile+1)}); e != api.ErrRange {
		t.Error("more than the greatest file:", e)
	}
}

// TestARefusedCommitLeavesTheNumber: what is refused can't be told later, not by the next sign either.
func TestARefusedCommitLeavesTheNumber(t *testing.T) {
	f := file(t, make([]byte, 4096))
	j := made(t, f, 0, 1024)
	j.Commit(rec(0, "x"))
	j.Commit(journal.Rec{At: 1024, B: make([]byte, 1024)})
	ok(t, j.Commit(rec(2000, "x")))
	if !bytes.Equal(f.Bytes()[:1024], partOf(1024, 1, rec(2000, "x"))) {
		t.Error("the first sign that is written hasn't the number 1")
	}
}

// TestNextNumber: the number goes on behind that of records that were found.
func TestNextNumber(t *testing.T) {
	for _, number := range []uint64{0, 7, math.MaxInt64, math.MaxUint64} {
		f := file(t, append(partOf(1024, number, rec(2000, "x")), make([]byte, 2048)...))
		j := made(t, f, 0, 1024)
		if n, e := j.Replay(); n != 1 || e != api.OK {
			t.Fatal("Replay:", n, e)
		}
		ok(t, j.Commit(rec(2000, "y")))
		if !bytes.Equal(f.Bytes()[:1024], partOf(1024, number+1, rec(2000, "y"))) {
			t.Errorf("behind number %d another than the next", number)
		}
	}
}

func TestGivenRecordsAreNotKept(t *testing.T) {
	f := file(t, make([]byte, 4096))
	j := made(t, f, 0, 1024)
	room := pattern(10, 1)
	recs := []journal.Rec{{At: 2000, B: room[:4]}, rec(9, "spare")}
	ok(t, j.Commit(recs[:1]...))
	ok(t, j.Apply(recs[:1]...))
	if !bytes.Equal(room, pattern(10, 1)) || recs[1].At != 9 {
		t.Error("what was handed in is changed")
	}
	ok(t, j.Commit(recs[:1]...))
	clear(room)
	got, _, _ := j.Pending()
	if !sameRecs(got, []journal.Rec{{At: 2000, B: pattern(10, 1)[:4]}}) || !bytes.Equal(f.Bytes()[2000:2004], pattern(10, 1)[:4]) {
		t.Error("what was handed in is kept")
	}
	clear(got[0].B)
	if again, _, _ := j.Pending(); bytes.Equal(again[0].B, got[0].B) {
		t.Error("an answer is kept")
	}
}

func TestApply(t *testing.T) {
	ahead := append(partOf(1024, 3, rec(1500, "old")), pattern(3000, 1)...)
	recs := []journal.Rec{rec(2000, "abcdef"), rec(1030, ""), rec(2003, "XY"), rec(4100, "beyond the end"), rec(1024, "first")}
	f := file(t, ahead)
	j := made(t, f, 0, 1024)
	ok(t, j.Apply(recs...))
	want := laid(ahead, recs...)
	clear(want[:512])
	if !bytes.Equal(f.Bytes(), want) || !bytes.Equal(f.Crash(), want) {
		t.Error("the records' bytes, or the sign")
	}
	if f.Ops() != len(recs)+3 || f.Wrote() != len(recs)+1 || f.Waiting() != 0 {
		t.Errorf("%d operations, %d writes, %d wait", f.Ops(), f.Wrote(), f.Waiting())
	}
	ok(t, j.Apply())
	if f.Ops() != len(recs)+6 || !bytes.Equal(f.Bytes(), want) {
		t.Error("Apply of no record")
	}
}

// TestApplyIsInOrder: the records are safe ahead of the sign's end.
func TestApplyIsInOrder(t *testing.T) {
	recs := []journal.Rec{rec(2000, "abc"), rec(3000, "def")}
	part := partOf(1024, 1, recs...)
	ahead := append(slices.Clone(part), make([]byte, 3000)...)
	for n := range 5 {
		f := file(t, ahead)
		j := made(t, f, 0, 1024)
		f.Stop(n + 1)
		if e := j.Apply(recs...); e != api.ErrIO || f.Ops() != n+1 {
			t.Errorf("stopped at operation %d: error %d, %d operations", n+1, e, f.Ops())
		}
		safe := f.Crash()
		stand := string(safe[2000:2003]) == "abc" && string(safe[3000:3003]) == "def"
		if stand != (n >= 3) || !bytes.Equal(safe[:512], part[:512]) || bytes.Equal(f.Bytes()[:512], part[:512]) != (n < 4) {
			t.Errorf("behind %d operations", n)
		}
	}
}

// TestApplyAnswersTheFile: Apply has no errors of its own.
func TestApplyAnswersTheFile(t *testing.T) {
	for _, at := range append([]int64{api.MaxFile}, extremes...) {
		want := api.ErrBig
		if at < 0 {
			want = api.ErrRange
		}
		ahead := append(partOf(1024, 3, rec(1500, "old")), pattern(3000, 1)...)
		f := file(t, ahead)
		j := made(t, f, 0, 1024)
		if e := j.Apply(rec(at, "x"), rec(2000, "y")); e != want || !bytes.Equal(f.Bytes(), ahead) || f.Ops() != 1 {
			t.Errorf("at %d: error %d, want %d, or it didn't stop there", at, e, want)
		}
	}
}

func TestClear(t *testing.T) {
	ahead := append(pattern(512, 1), append(partOf(1024, 3, rec(2000, "x")), pattern(1000, 2)...)...)
	f := file(t, ahead)
	j := made(t, f, 512, 1024)
	ok(t, j.Clear())
	want := slices.Clone(ahead)
	clear(want[512:1024])
	if !bytes.Equal(f.Crash(), want) || f.Ops() != 2 || f.Wrote() != 1 {
		t.Error("Clear")
	}
	if _, some, e := j.Pending(); some || e != api.OK {
		t.Error("behind Clear records count")
	}
}

// pendingIn: Pending of a file with these bytes; the file must stay as it is.
func pendingIn(t *testing.T, b []byte, from, size int64) ([]journal.Rec, bool) {
	t.Helper()
	f := file(t, b)
	j := made(t, f, from, size)
	recs, some, e := j.Pending()
	if e != api.OK || !some && len(recs) != 0 {
		t.Fatal("Pending:", recs, some, e)
	}
	if f.Wrote() != 0 || !bytes.Equal(f.Bytes(), b) {
		t.Fatal("Pending wrote")
	}
	if !some {
		if n, e := j.Replay(); n != 0 || e != api.OK || f.Wrote() != 0 {
			t.Fatal("Replay, where none counts:", n, e)
		}
	}
	return recs, some
}

func TestPending(t *testing.T) {
	for _, recs := range [][]journal.Rec{
		{rec(0, "a")}, {rec(0, "")}, {rec(4, "abc"), rec(4, "d"), rec(api.MaxFile, "")}, {rec(api.MaxFile-3, "end")},
		{rec(509, "tip"), rec(2560, "tail"), rec(700, ""), rec(512, "")}, {{At: 3000, B: pattern(1524, 1)}},
	} {
		b := append(pattern(512, 1), append(partOf(2048, 99, recs...), pattern(600, 3)...)...)
		got, some := pendingIn(t, b, 512, 2048)
		if !some || !sameRecs(got, recs) {
			t.Errorf("Pending: %v, %t; want %v", got, some, recs)
		}
	}
}

// TestPendingByOneBit: with any other bit of the sign or of the body no record counts.
func TestPendingByOneBit(t *testing.T) {
	recs := []journal.Rec{rec(2000, "abc"), rec(3000, "d")}
	part := partOf(1024, 5, recs...)
	for i := range 512 + len(bodyOf(recs...)) {
		for bit := range 8 {
			part[i] ^= 1 << bit
			if _, some := pendingIn(t, part, 0, 1024); some {
				t.Errorf("byte %d, bit %d", i, bit)
			}
			part[i] ^= 1 << bit
		}
	}
	part[512+len(bodyOf(recs...))] ^= 1 // behind the body all is FREE
	if _, some := pendingIn(t, part, 0, 1024); !some {
		t.Error("a byte behind the body counts")
	}
}

// TestPendingOfWrongSigns: signs and bodies whose sums are right, but that say what may not be.
func TestPendingOfWrongSigns(t *testing.T) {
	const size, room = 2048, 1536
	sum := func(b []byte) uint32 { return crc32.ChecksumIEEE(b) }
	lay := func(sign, body []byte) []byte {
		b := make([]byte, size+512)
		copy(b, sign)
		copy(b[512:], body)
		return b
	}
	two := bodyOf(rec(3000, "abc"), rec(3100, "de"))
	n := uint32(len(two))
	noughts := signOf(0x314A5446, 1, 2, n, sum(two))
	noughts[28] = 1
	last := signOf(0x314A5446, 1, 2, n, sum(two))
	last[511] = 1
	great := bodyOf(journal.Rec{At: 3000, B: make([]byte, room-11)})
	for name, b := range map[string][]byte{
		"right":                             lay(signOf(0x314A5446, 1, 2, n, sum(two)), two),
		"another Magic":                     lay(signOf(0x314A5447, 1, 2, n, sum(two)), two),
		"no Magic":                          lay(signOf(0, 1, 2, n, sum(two)), two),
		"the first byte of the noughts":     lay(noughts, two),
		"the last byte of the noughts":      lay(last, two),
		"a record fewer":                    lay(signOf(0x314A5446, 1, 1, n, sum(two)), two),
		"a record more":                     lay(signOf(0x314A5446, 1, 3, n, sum(two)), two),
		"no record":                         lay(signOf(0x314A5446, 1, 0, n, sum(two)), two),
		"no record, no byte":                lay(signOf(0x314A5446, 1, 0, 0, 0), two),
		"most records":                      lay(signOf(0x314A5446, 1, math.MaxUint32, n, sum(two)), two),
		"half of most records":              lay(signOf(0x314A5446, 1, 1<<31, n, sum(two)), two),
		"a byte fewer":                      lay(signOf(0x314A5446, 1, 2, n-1, sum(two[:n-1])), two),
		"a byte more":                       lay(signOf(0x314A5446, 1, 2, n+1, sum(append(slices.Clone(two), 0))), two),
		"most bytes":                        lay(signOf(0x314A5446, 1, 2, math.MaxUint32, sum(two)), two),
		"half of most bytes":                lay(signOf(0x314A5446, 1, 2, 1<<31, sum(two)), two),
		"more than Room":                    lay(signOf(0x314A5446, 1, 1, room+1, sum(great)), great),
		"another sum":                       lay(signOf(0x314A5446, 1, 2, n, sum(two)+1), two),
		"a sum of no byte":                  lay(signOf(0x314A5446, 1, 2, n, 0), two),
		"noughts":                           make([]byte, size),
		"the sign alone, one sector behind": lay(make([]byte, 512), signOf(0x314A5446, 1, 2, n, sum(two))),
	} {
		if _, some := pendingIn(t, b, 0, size); some != (name == "right") {
			t.Errorf("%s: %t", name, some)
		}
	}
}

// TestPendingOfRecordsThatMayNotBe: one that may not be written is enough.
func TestPendingOfRecordsThatMayNotBe(t *testing.T) {
	part := api.Ext{From: 512, To: 3072}
	for _, r := range places(part) {
		if len(r.B) > 1024 {
			continue
		}
		good := rec(100, "good")
		for _, recs := range [][]journal.Rec{{r}, {good, r}, {r, good}} {
			b := append(make([]byte, 512), partOf(2560, 1, recs...)...)
			got, some := pendingIn(t, b, part.From, part.To-part.From)
			if some != mayBe(r, part) || some && !sameRecs(got, recs) {
				t.Errorf("%d bytes at %d, of %d records: %t", len(r.B), r.At, len(recs), some)
			}
		}
	}
}

func TestAnyBytesInTheJournal(t *testing.T) {
	r := rand.New(rand.NewSource(2))
	for range 3000 {
		b := make([]byte, 1024+512*r.Intn(3))
		for i := range b[:r.Intn(len(b)+1)] {
			b[i] = byte(r.Intn(256))
		}
		if r.Intn(2) == 0 { // the sign is right, and says something of what isn't
			n := r.Intn(len(b) - 512)
			copy(b, signOf(0x314A5446, r.Uint64(), uint32(r.Intn(4)), uint32(n), crc32.ChecksumIEEE(b[512:512+n])))
		}
		got, some := pendingIn(t, b, 0, int64(len(b)))
		n, count := int(binary.LittleEndian.Uint32(b[16:])), int(binary.LittleEndian.Uint32(b[12:]))
		if !some {
			continue
		}
		want, right := decoded(b[512:512+n], count)
		if !right || !sameRecs(got, want) {
			t.Fatal("records that aren't there count")
		}
	}
}

func TestReplay(t *testing.T) {
	recs := []journal.Rec{rec(2000, "abcdef"), rec(1030, ""), rec(2003, "XY"), rec(4100, "beyond the end")}
	ahead := append(partOf(1024, 8, recs...), pattern(3000, 1)...)
	f := file(t, ahead)
	j := made(t, f, 0, 1024)
	if n, e := j.Replay(); n != len(recs) || e != api.OK {
		t.Error("Replay:", n, e)
	}
	want := laid(ahead, recs...)
	clear(want[:512])
	if !bytes.Equal(f.Crash(), want) || f.Waiting() != 0 {
		t.Error("behind Replay")
	}
	if n, e := j.Replay(); n != 0 || e != api.OK || !bytes.Equal(f.Crash(), want) {
		t.Error("a second Replay:", n, e)
	}
}

func TestExample(t *testing.T) {
	for n := 1; n <= 5; n++ {
		f := file(t, make([]byte, 4096))
		j := made(t, f, 0, 1024)
		f.Stop(n)
		j.Commit(rec(2048, "abc"))
		for set := range 1 << f.Waiting() {
			g := file(t, f.Crash(set&1 == 1, set&2 == 2))
			k := made(t, g, 0, 1024)
			count, e := k.Replay()
			stands := string(g.Bytes()[2048:2051]) == "abc"
			if e != api.OK || stands != (count == 1) {
				t.Error("Replay:", count, e)
			}
			if want := n == 5 || n == 4 && set == 1; stands != want {
				t.Errorf("stopped at operation %d, kept %b: stands %t", n, set, stands)
			}
		}
	}
}

// TestEncodeBeyondTheBound: of answers beyond 2^31 - 1 bytes nothing is promised, but that the call ends.
func TestEncodeBeyondTheBound(t *testing.T) {
	great := journal.Rec{At: 1, B: make([]byte, 1<<30)}
	if got := journal.Encode(great, great, great, great); len(got) != 0 {
		t.Error("an answer of", len(got), "bytes")
	}
}
