package journal_test

import (
	"bytes"
	"math/rand"
	"slices"
	"testing"

	"fettle/api"
	"fettle/disk"
	"fettle/journal"
)

// choices: which writes are kept: each choice, where they are few; else none, all,
// each one alone, all but each one, and many at random.
func choices(n int, r *rand.Rand) [][]bool {
	var out [][]bool
	if n <= 7 {
		for set := range 1 << n {
			keep := make([]bool, n)
			for i := range keep {
				keep[i] = set>>i&1 == 1
			}
			out = append(out, keep)
		}
		return out
	}
	out = append(out, make([]bool, n), slices.Repeat([]bool{true}, n))
	for i := range n {
		one, rest := make([]bool, n), slices.Repeat([]bool{true}, n)
		one[i], rest[i] = true, false
		out = append(out, one, rest)
	}
	for range 40 {
		keep := make([]bool, n)
		for i := range keep {
			keep[i] = r.Intn(2) == 0
		}
		out = append(out, keep)
	}
	return out
}

// scene: a file, where its journal stands in it, and what is to be done.
type scene struct {
	name       string
	b          []byte
	from, size int64
	recs       []journal.Rec
}

func scenes() []scene {
	blank := func(n int, from, size int64) []byte {
		b := pattern(n, 1)
		clear(b[from : from+size])
		return b
	}
	used := blank(6000, 0, 2048) // behind a Clear the last body is still there
	copy(used[512:], partOf(2048, 4, rec(3000, string(pattern(900, 77))))[512:])
	torn := blank(6000, 0, 2048) // a sign, and a body that isn't its own
	copy(torn, partOf(2048, 4, rec(3000, "abc")))
	torn[525] ^= 1
	long := journal.Rec{At: 2100, B: pattern(1200, 50)}
	return []scene{
		{"one", blank(4096, 0, 1024), 0, 1024, []journal.Rec{rec(2048, "abc")}},
		{"over a sector's edge", blank(4096, 0, 1024), 0, 1024, []journal.Rec{rec(2046, "abcdef")}},
		{"many sectors", blank(6000, 512, 2048), 512, 2048, []journal.Rec{{At: 2600, B: long.B}}},
		{"on both sides", blank(6000, 512, 2048), 512, 2048, []journal.Rec{rec(509, "tip"), rec(2560, "tail"), rec(0, "head")}},
		{"one over the other", blank(6000, 0, 2048), 0, 2048, []journal.Rec{long, rec(2500, "over it"), rec(2503, "X"), rec(2100, "again")}},
		{"beyond the end", blank(3000, 0, 1024), 0, 1024, []journal.Rec{rec(2990, "over the end, and on"), rec(3600, "far"), rec(4000, "")}},
		{"behind a journal at the end", blank(3072, 1536, 1536), 1536, 1536, []journal.Rec{rec(3072, "behind"), rec(10, "ahead")}},
		{"a part that was used", used, 0, 2048, []journal.Rec{long, rec(5000, "x")}},
		{"any bytes in the part", pattern(6000, 9), 1024, 2048, []journal.Rec{rec(3100, "any"), rec(1, string(pattern(800, 3)))}},
		{"a sign without its body", torn, 0, 2048, []journal.Rec{long, rec(5000, "x")}},
	}
}

// open: a journal in a scene, on bytes that are left.
func (s scene) open(t *testing.T, b []byte) (*disk.File, *journal.Journal) {
	t.Helper()
	f := file(t, b)
	return f, made(t, f, s.from, s.size)
}

// outside: all bytes but the journal's part.
func (s scene) outside(b []byte) []byte {
	return slices.Concat(b[:s.from], b[s.from+s.size:])
}

// TestAllOrNone is P5.2: a Commit and its Apply, cut off at each operation.
func TestAllOrNone(t *testing.T) {
	r := rand.New(rand.NewSource(5))
	for _, s := range scenes() {
		none, all := s.outside(s.b), s.outside(laid(s.b, s.recs...))
		nones, alls := 0, 0
		for stop := 1; ; stop++ {
			f, j := s.open(t, s.b)
			f.Stop(stop)
			e := j.Commit(s.recs...)
			committed := e == api.OK
			if committed {
				e = j.Apply(s.recs...)
			}
			for _, keep := range choices(f.Waiting(), r) {
				g, k := s.open(t, f.Crash(keep...))
				n, again := k.Replay()
				got := s.outside(g.Bytes())
				if again != api.OK || n != 0 && n != len(s.recs) || !bytes.Equal(g.Bytes(), g.Crash()) {
					t.Fatalf("%s: cut off at %d, kept %v: Replay: %d, %d", s.name, stop, keep, n, again)
				}
				switch {
				case bytes.Equal(got, all):
					alls++
				case bytes.Equal(got, none) && !committed && n == 0:
					nones++
				default:
					t.Fatalf("%s: cut off at %d, kept %v: neither all nor none", s.name, stop, keep)
				}
				if _, some, e := k.Pending(); some || e != api.OK {
					t.Fatalf("%s: cut off at %d, kept %v: records count behind a Replay", s.name, stop, keep)
				}
			}
			if e == api.OK {
				break
			}
			if e != api.ErrIO || f.Ops() != stop {
				t.Fatalf("%s: cut off at %d: error %d, %d operations", s.name, stop, e, f.Ops())
			}
		}
		if nones == 0 || alls == 0 {
			t.Errorf("%s: %d times none, %d times all", s.name, nones, alls)
		}
	}
}

// TestOneAfterTheOther: of changes that come one behind the other, those that were done stay done.
func TestOneAfterTheOther(t *testing.T) {
	r := rand.New(rand.NewSource(6))
	for round := range 60 {
		s := scene{b: pattern(8000, byte(round)), from: 512 * int64(r.Intn(6)), size: 512 * int64(2+r.Intn(5))}
		clear(s.b[s.from : s.from+s.size])
		now := slices.Clone(s.b)
		f, j := s.open(t, s.b)
		for range 12 {
			recs := anyRecords(j, r)
			f.Stop(1 + r.Intn(20))
			e := j.Commit(recs...)
			if e == api.OK {
				e = j.Apply(recs...)
			}
			if e == api.OK {
				now = laid(now, recs...)
				f.Stop(0)
				continue
			}
			list := choices(f.Waiting(), r)
			f, j = s.open(t, f.Crash(list[r.Intn(len(list))]...))
			if _, e := j.Replay(); e != api.OK {
				t.Fatal("Replay:", e)
			}
			if !bytes.Equal(s.outside(f.Bytes()), s.outside(now)) {
				now = laid(now, recs...)
			}
			if !bytes.Equal(s.outside(f.Bytes()), s.outside(now)) {
				t.Fatalf("round %d: neither all nor none", round)
			}
		}
	}
}

// anyRecords: records that may be written, as many as there is room for.
func anyRecords(j *journal.Journal, r *rand.Rand) []journal.Rec {
	var recs []journal.Rec
	for range 1 + r.Intn(5) {
		next := journal.Rec{At: r.Int63n(8200), B: pattern(r.Intn(600)*r.Intn(2)+r.Intn(9), byte(r.Intn(250)))}
		if mayBe(next, j.Where()) && int64(len(bodyOf(append(recs, next)...))) <= j.Room() {
			recs = append(recs, next)
		}
	}
	return recs
}

// TestReplayAgain is P5.3: a Replay that is cut off at each operation, and done
// again, once more cut off or not, leaves what one that wasn't leaves.
func TestReplayAgain(t *testing.T) {
	r := rand.New(rand.NewSource(7))
	for _, s := range scenes() {
		f, j := s.open(t, s.b)
		ok(t, j.Commit(s.recs...))
		left := f.Crash()
		g, k := s.open(t, left)
		if n, e := k.Replay(); n != len(s.recs) || e != api.OK {
			t.Fatal("Replay:", n, e)
		}
		want := g.Bytes()
		for stop := 1; ; stop++ {
			g, k := s.open(t, left)
			g.Stop(stop)
			n, e := k.Replay()
			if e == api.OK {
				if n != len(s.recs) {
					t.Errorf("%s: %d records", s.name, n)
				}
				break
			}
			if n != 0 || e != api.ErrIO || g.Ops() != stop {
				t.Fatalf("%s: cut off at %d: %d, %d", s.name, stop, n, e)
			}
			for _, keep := range choices(g.Waiting(), r) {
				h, l := s.open(t, g.Crash(keep...))
				h.Stop(1 + r.Intn(8))
				l.Replay()
				list := choices(h.Waiting(), r)
				last, m := s.open(t, h.Crash(list[r.Intn(len(list))]...))
				if _, e := m.Replay(); e != api.OK || !bytes.Equal(last.Bytes(), want) {
					t.Fatalf("%s: cut off at %d, kept %v: other bytes, or error %d", s.name, stop, keep, e)
				}
			}
			g.Stop(0) // the power stays: the same journal goes on
			if _, e := k.Replay(); e != api.OK || !bytes.Equal(g.Bytes(), want) {
				t.Fatalf("%s: refused from %d on, and done again: other bytes, or error %d", s.name, stop, e)
			}
		}
	}
}

// TestRefusedThenCutOff: an operation is refused, and the power stays; then it goes,
// at each operation of the Replay. The sign that the Replay sees may not be safe yet.
func TestRefusedThenCutOff(t *testing.T) {
	r := rand.New(rand.NewSource(8))
	for _, s := range scenes() {
		none, all := s.outside(s.b), s.outside(laid(s.b, s.recs...))
		for refused := 1; ; refused++ {
			done := false
			for stop := 1; ; stop++ {
				f, j := s.open(t, s.b)
				f.Refuse(refused)
				e := j.Commit(s.recs...)
				if e == api.OK {
					e = j.Apply(s.recs...)
				}
				done = e == api.OK
				f.Stop(stop)
				_, e = j.Replay()
				for _, keep := range choices(f.Waiting(), r) {
					g, k := s.open(t, f.Crash(keep...))
					if _, e := k.Replay(); e != api.OK {
						t.Fatal("Replay:", e)
					}
					if got := s.outside(g.Bytes()); !bytes.Equal(got, all) && !bytes.Equal(got, none) {
						t.Fatalf("%s: operation %d refused, cut off at %d, kept %v: neither all nor none", s.name, refused, stop, keep)
					}
				}
				if e == api.OK {
					break
				}
			}
			if done {
				break
			}
		}
	}
}

// TestEachRefusal: a call answers ErrIO of any of its operations, and stops there.
func TestEachRefusal(t *testing.T) {
	recs := []journal.Rec{rec(2000, "abc"), rec(3000, "d")}
	ahead := append(partOf(1024, 5, recs...), pattern(3000, 1)...)
	for name, do := range map[string]func(j *journal.Journal) (bool, api.Errno){
		"Commit": func(j *journal.Journal) (bool, api.Errno) { return true, j.Commit(recs...) },
		"Apply":  func(j *journal.Journal) (bool, api.Errno) { return true, j.Apply(recs...) },
		"Clear":  func(j *journal.Journal) (bool, api.Errno) { return true, j.Clear() },
		"Pending": func(j *journal.Journal) (bool, api.Errno) {
			got, some, e := j.Pending()
			return len(got) == 0 && !some, e
		},
		"Replay": func(j *journal.Journal) (bool, api.Errno) { n, e := j.Replay(); return n == 0, e },
	} {
		whole := file(t, ahead)
		if _, e := do(made(t, whole, 0, 1024)); e != api.OK || whole.Ops() == 0 {
			t.Fatalf("%s: error %d", name, e)
		}
		for n := 1; n <= whole.Ops(); n++ {
			f := file(t, ahead)
			j := made(t, f, 0, 1024)
			f.Refuse(n)
			if nothing, e := do(j); !nothing || e != api.ErrIO || f.Ops() != n {
				t.Errorf("%s: operation %d refused: %d, %d operations", name, n, e, f.Ops())
			}
		}
	}
}

// TestAFileThatIsCut: its own calls may take the journal's part away; the file's error is told.
func TestAFileThatIsCut(t *testing.T) {
	part := partOf(2048, 5, rec(3000, string(pattern(700, 1))))
	for _, n := range []int64{0, 511, 512, 600, 1223, 1224} {
		f := file(t, append(slices.Clone(part), 1, 2, 3))
		j := made(t, f, 0, 2048)
		ok(t, j.Truncate(n))
		recs, some, e := j.Pending()
		if n < 1224 && (len(recs) != 0 || some || e != api.ErrRange) || n == 1224 && (!some || e != api.OK) {
			t.Errorf("Pending of %d bytes: %v %t %d", n, recs, some, e)
		}
		if k, e := j.Replay(); n < 1224 && (k != 0 || e != api.ErrRange) {
			t.Errorf("Replay of %d bytes: %d %d", n, k, e)
		}
		if j.Room() != 1536 || (j.Where() != api.Ext{From: 0, To: 2048}) {
			t.Error("Room, Where")
		}
		ok(t, j.Commit(rec(2100, "x")))
		if n, e := j.Replay(); n != 1 || e != api.OK {
			t.Error("a Commit makes the part again:", n, e)
		}
	}
}

// TestNoJournal: a nil journal, and one that New didn't make.
func TestNoJournal(t *testing.T) {
	f := file(t, pattern(2000, 1))
	for name, j := range map[string]*journal.Journal{"nil": nil, "zero": {}, "a file alone": {File: f}} {
		if j.Room() != 0 || (j.Where() != api.Ext{}) {
			t.Error(name, "Room, Where")
		}
		if j.Commit(rec(1, "a")) != api.ErrNil || j.Commit() != api.ErrNil || j.Commit(rec(-1, "")) != api.ErrNil {
			t.Error(name, "Commit")
		}
		if j.Apply(rec(1, "a")) != api.ErrNil || j.Apply() != api.ErrNil || j.Clear() != api.ErrNil {
			t.Error(name, "Apply, Clear")
		}
		if recs, some, e := j.Pending(); len(recs) != 0 || some || e != api.ErrNil {
			t.Error(name, "Pending:", recs, some, e)
		}
		if n, e := j.Replay(); n != 0 || e != api.ErrNil {
			t.Error(name, "Replay:", n, e)
		}
	}
	if f.Ops() != 0 {
		t.Error("the file was asked for something")
	}
}

// TestAJournalIsAFile: it has its file's calls, and they are the file's.
func TestAJournalIsAFile(t *testing.T) {
	f := file(t, pattern(2000, 1))
	j := made(t, f, 0, 1024)
	if j.File != f || j.Len() != 2000 || !bytes.Equal(j.Bytes(), f.Bytes()) {
		t.Error("the file")
	}
	ok(t, j.Write(1500, []byte("abc")))
	if j.Waiting() != 1 || f.Waiting() != 1 || string(f.Bytes()[1500:1503]) != "abc" || j.Ops() != 1 || j.Wrote() != 1 {
		t.Error("Write")
	}
	ok(t, j.Flush())
	j.Stop(1)
	if _, e := j.Read(0, 1); e != api.ErrIO || !f.Stopped() {
		t.Error("Stop")
	}
}
