package tx_test

import (
	"bytes"
	"math/rand"
	"slices"
	"testing"

	"fettle/api"
	"fettle/disk"
	"fettle/journal"
	"fettle/tx"
)

// choices: which writes are kept: each choice, where they are few; else none, all,
// each one alone, all but each one, and many at random.
func choices(n int, r *rand.Rand) [][]bool {
	var out [][]bool
	if n <= 7 {
		for set := range 1 << n {
			keep := make([]bool, n)
			for i := range keep {
				keep[i] = set>>i&1 == 1
			}
			out = append(out, keep)
		}
		return out
	}
	out = append(out, make([]bool, n), slices.Repeat([]bool{true}, n))
	for i := range n {
		one, rest := make([]bool, n), slices.Repeat([]bool{true}, n)
		one[i], rest[i] = true, false
		out = append(out, one, rest)
	}
	for range 40 {
		keep := make([]bool, n)
		for i := range keep {
			keep[i] = r.Intn(2) == 0
		}
		out = append(out, keep)
	}
	return out
}

// scene: a file, where its journal stands in it, and what becomes of it.
type scene struct {
	name       string
	b          []byte
	from, size int64
	edits      []edit
}

func putting(at int64, n int, seed byte) edit { return edit{at: at, p: pattern(n, seed)} }
func freshly(at int64, n int, seed byte) edit { return edit{at: at, p: pattern(n, seed), fresh: true} }

func scenes() []scene {
	return []scene{
		{"one byte", blank(6000, 0, 2048), 0, 2048, []edit{putting(3000, 1, 50)}},
		{"two places", blank(8000, 512, 2048), 512, 2048, []edit{putting(7000, 3, 50), putting(10, 3, 60)}},
		{"a run of sectors", blank(8000, 0, 4096), 0, 4096, []edit{putting(4500, 2000, 50)}},
		{"Fresh alone", blank(8000, 0, 2048), 0, 2048, []edit{freshly(4096, 1500, 50), freshly(2560, 9, 60)}},
		{"both", blank(9000, 0, 2048), 0, 2048, []edit{putting(3000, 5, 50), freshly(4096, 1100, 60), putting(7000, 3, 70), freshly(8192, 512, 80)}},
		{"beyond the end", blank(5000, 0, 2048), 0, 2048, []edit{putting(4990, 20, 50), freshly(5632, 700, 60), putting(9000, 4, 70)}},
		{"Fresh over Put", blank(6000, 0, 2048), 0, 2048, []edit{putting(3000, 100, 50), freshly(2560, 460, 60), freshly(4096, 30, 70)}},
		{"Put over Fresh", blank(6000, 0, 2048), 0, 2048, []edit{freshly(2560, 800, 60), putting(3000, 500, 50)}},
		{"a journal at the end", blank(6144, 4096, 2048), 4096, 2048, []edit{putting(6144, 3, 50), putting(4095, 1, 60), freshly(1024, 512, 70)}},
		{"any bytes in the journal", pattern(8000, 9), 1024, 2560, []edit{putting(1000, 20, 50), putting(5000, 600, 60), freshly(6144, 100, 70)}},
	}
}

// open: a journal in a scene, on bytes that are left.
func (s scene) open(t *testing.T, b []byte) (*disk.File, *journal.Journal) {
	t.Helper()
	f := file(t, b)
	return f, made(t, f, s.from, s.size)
}

// changes: all edits, as a Tx that isn't committed, and as the model.
func (s scene) changes(t *testing.T, j *journal.Journal) (*tx.Tx, *model) {
	t.Helper()
	c, m := begun(t, j), &model{}
	for _, x := range s.edits {
		if x.fresh {
			m.fresh(t, c, x.at, x.p)
		} else {
			m.put(t, c, x.at, x.p)
		}
	}
	return c, m
}

// besides: all bytes but the journal's and those of Fresh, and noughts as long as a file might have grown.
func (s scene) besides(b []byte) []byte {
	b = append(slices.Clone(b), make([]byte, 20000-len(b))...)
	clear(b[s.from : s.from+s.size])
	for _, x := range s.edits {
		if x.fresh {
			clear(b[x.at : x.at+int64(len(x.p))])
		}
	}
	return b
}

// state: is what is left behind a Replay all of the changes, or none?
func (s scene) state(t *testing.T, m *model, left []byte) (all, none bool) {
	t.Helper()
	g, k := s.open(t, left)
	if _, e := k.Replay(); e != api.OK {
		t.Fatal("Replay:", e)
	}
	if _, some, e := k.Pending(); some || e != api.OK {
		t.Fatal("records count behind a Replay:", e)
	}
	part := k.Where()
	all = bytes.Equal(outside(g.Bytes(), part), outside(m.committed(s.b), part))
	none = bytes.Equal(s.besides(g.Bytes()), s.besides(s.b))
	return all, none
}

// TestAllOrNone is P6.2: a Commit, cut off at each operation.
func TestAllOrNone(t *testing.T) {
	r := rand.New(rand.NewSource(3))
	for _, s := range scenes() {
		nones, alls := 0, 0
		for stop := 1; ; stop++ {
			f, j := s.open(t, s.b)
			c, m := s.changes(t, j)
			f.Stop(stop)
			e := c.Commit()
			for _, keep := range choices(f.Waiting(), r) {
				all, none := s.state(t, m, f.Crash(keep...))
				switch {
				case all:
					alls++
				case none && e != api.OK:
					nones++
				default:
					t.Fatalf("%s: cut off at %d, kept %v: neither all nor none", s.name, stop, keep)
				}
			}
			if e == api.OK {
				break
			}
			if e != api.ErrIO || f.Ops() != stop {
				t.Fatalf("%s: cut off at %d: error %d, %d operations", s.name, stop, e, f.Ops())
			}
		}
		if alls == 0 || nones == 0 {
			t.Errorf("%s: %d times none, %d times all", s.name, nones, alls)
		}
	}
}

// TestEachRefusal: one operation is refused, and the power stays: ErrIO, and behind a Replay all or none.
func TestEachRefusal(t *testing.T) {
	for _, s := range scenes() {
		for n := 1; ; n++ {
			f, j := s.open(t, s.b)
			c, m := s.changes(t, j)
			f.Refuse(n)
			e := c.Commit()
			if e == api.OK {
				break
			}
			if e != api.ErrIO || f.Ops() != n {
				t.Fatalf("%s: operation %d refused: error %d, %d operations", s.name, n, e, f.Ops())
			}
			if all, none := s.state(t, m, f.Bytes()); !all && !none {
				t.Fatalf("%s: operation %d refused: neither all nor none", s.name, n)
			}
			if f.Wrote() == 0 {
				continue
			}
			// What was begun isn't begun again: records that count would be written over.
			if c.Commit() != api.ErrState || c.Put(0, []byte("a")) != api.ErrState || c.Fresh(0, nil) != api.ErrState {
				t.Fatalf("%s: operation %d refused: it goes on", s.name, n)
			}
		}
	}
}

// TestRefusedReads: where nothing was written yet, a Commit may be done again.
func TestRefusedReads(t *testing.T) {
	f := file(t, blank(6000, 0, 2048))
	j := made(t, f, 0, 2048)
	c := begun(t, j)
	ok(t, c.Put(3000, []byte("abc")))
	f.Refuse(1)
	if b, e := c.Get(2900, 200); len(b) != 0 || e != api.ErrIO {
		t.Error("Get:", len(b), e)
	}
	f.Refuse(1)
	if e := c.Commit(); e != api.ErrIO || f.Wrote() != 0 {
		t.Error("Commit:", e, f.Wrote())
	}
	ok(t, c.Commit())
	if string(f.Bytes()[3000:3003]) != "abc" {
		t.Error("the Commit that was done again")
	}
}

// TestOneAfterTheOther: of changes that come one behind the other, those that were done stay done.
func TestOneAfterTheOther(t *testing.T) {
	r := rand.New(rand.NewSource(4))
	for range 40 {
		s := scene{b: blank(9000, 1024, 6144), from: 1024, size: 6144}
		f, j := s.open(t, s.b)
		for range 8 {
			s.edits = nil
			for range 1 + r.Intn(3) {
				s.edits = append(s.edits, putting(7168+r.Int63n(6000), 1+r.Intn(300), byte(r.Intn(250))))
			}
			s.edits = append(s.edits, freshly(14336, 1+r.Intn(900), byte(r.Intn(250))))
			c, m := s.changes(t, j)
			f.Stop(1 + r.Intn(16))
			e := c.Commit()
			f.Stop(0)
			if e == api.OK {
				s.b = f.Bytes()
				continue
			}
			list := choices(f.Waiting(), r)
			left := f.Crash(list[r.Intn(len(list))]...)
			if all, none := s.state(t, m, left); e != api.ErrIO || !all && !none {
				t.Fatal("neither all nor none, or error", e)
			}
			f, j = s.open(t, left)
			if _, e := j.Replay(); e != api.OK {
				t.Fatal("Replay:", e)
			}
			s.b = f.Bytes()
		}
	}
}
