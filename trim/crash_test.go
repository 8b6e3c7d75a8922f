package trim_test

import (
	"bytes"
	"crypto/sha256"
	"math/rand"
	"slices"
	"testing"

	"fettle/api"
	"fettle/image"
	"fettle/rawguest"
	"fettle/rawimage"
	"fettle/trim"
)

// state is what a file is behind so many steps of a call: all of it that counts.
type state struct {
	count   int
	essence string
}

// scene is a call on a world, and the states that it goes through.
type scene struct {
	what string
	*world
	call
	states []state
	seen   map[[32]byte]int // what is left by a crash, and which state it was found to be
}

// essence: all of a file's bytes that count.
func essence(t *testing.T, b []byte) string {
	t.Helper()
	return right(t, b).Essence()
}

// newScene: a scene; its states are made by the layers, and looked at.
func newScene(t *testing.T, what string, w *world, c call) *scene {
	t.Helper()
	s := &scene{what: what + ": " + c.name, world: w, call: c, seen: map[[32]byte]int{}}
	x := newTwin(t, w.b, w.behind)
	s.states = []state{{0, essence(t, w.b)}}
	e := c.layer(x, func(n int) {
		b := x.f.Bytes()
		s.states = append(s.states, state{n, essence(t, b)})
		s.looks(t, b)
	})
	ok(t, e)
	s.looks(t, x.f.Bytes())
	if len(s.states) < 2 || s.states[0].essence == s.states[len(s.states)-1].essence {
		t.Fatal(s.what, "changes nothing")
	}
	return s
}

// looks: what must hold of each state: each snapshot that isn't dropped reads as ahead; the
// active disk is as it was, or was to be.
func (s *scene) looks(t *testing.T, b []byte) {
	t.Helper()
	switch s.call.name {
	case "Sparsify", "Squeeze", "Compact":
		s.shows(t, b, s.call.name == "Sparsify")
		if len(b) > len(s.b) {
			t.Fatal(s.what, "makes the file longer")
		}
	case "Pull":
		s.shows(t, b, false)
	case "Alone":
		now := *s.world
		now.back = nil
		now.shows(t, b, false)
	default:
		x := right(t, b)
		for name, top := range named(b, x) {
			if was := s.snaps[name]; was != nil && !bytes.Equal(x.Disk(top, s.back), was) {
				t.Fatal(s.what, "changes the snapshot", name)
			}
		}
		d := x.Disk(x.First-1, s.back)
		if s.call.name == "Snap" || s.call.name == "Drop" {
			if !bytes.Equal(d, s.active) {
				t.Fatal(s.what, "changes the active disk")
			}
		}
		if s.call.name == "Resize" {
			s.guest.holds(t, d)
		}
	}
}

// is: which state a file's bytes are, when they are opened again; opened twice is as once.
func (s *scene) is(t *testing.T, left []byte) int {
	t.Helper()
	key := sha256.Sum256(left)
	if at, was := s.seen[key]; was {
		return at
	}
	u, e := trim.Open(left, s.behind...)
	if e != api.OK {
		t.Fatal(s.what, "opened again: error", e)
	}
	b := u.Bytes()
	now := essence(t, b)
	at := slices.IndexFunc(s.states, func(x state) bool { return x.essence == now })
	if at < 0 {
		t.Fatal(s.what, "opened again it is none of its states")
	}
	if gives := s.call.name == "Sparsify" || s.call.name == "Squeeze" || s.call.name == "Compact"; gives && len(b) > len(s.b) {
		t.Fatal(s.what, "the file is longer")
	}
	if !bytes.Equal(u.Crash(), b) {
		t.Fatal(s.what, "what is done when it is opened isn't safe")
	}
	again, e := trim.Open(b, s.behind...)
	if e != api.OK || again.Image().Replayed() != 0 || !bytes.Equal(again.Bytes(), b) {
		t.Fatal(s.what, "opened twice isn't as once; error", e)
	}
	s.seen[key] = at
	return at
}

// expects: a call has told a count and an error: then a file may be in the state behind
// so many steps, or, with an error, in the next one.
func (s *scene) expects(t *testing.T, at, n int, e api.Errno) {
	t.Helper()
	last := len(s.states) - 1
	done := slices.IndexFunc(s.states, func(x state) bool { return x.count == n })
	switch {
	case e == api.OK && n == s.states[last].count && at == last:
	case e == api.ErrIO && done >= 0 && (at == done || at == done+1):
	default:
		t.Fatalf("%s: %d, error %d: the state behind it is %d", s.what, n, e, at)
	}
}

// cutOff: the power goes at each operation, with nothing, all, or some kept.
func (s *scene) cutOff(t *testing.T) {
	t.Helper()
	met := map[int]int{}
	for stop := 1; ; stop++ {
		u := s.open(t)
		u.Stop(stop)
		n, e := s.tool(u)
		for _, keep := range rawimage.Keeps(u.Waiting()) {
			at := s.is(t, u.Crash(keep...))
			s.expects(t, at, n, e)
			met[at]++
		}
		if e == api.OK {
			break
		}
		u.Stop(0) // the file itself stays: the tool may go on with it, too
		ok(t, u.Recover())
		at := s.is(t, u.Bytes())
		s.expects(t, at, n, e)
		if again := s.is(t, u.Crash()); again != at {
			t.Fatal(s.what, "what is recovered isn't safe")
		}
	}
	if len(met) != len(s.states) {
		t.Error(s.what, "not all states were met:", met)
	}
}

// refused: each operation is refused, one by one. The tool is broken then; the power goes
// there, or it is recovered, and goes on.
func (s *scene) refused(t *testing.T) {
	t.Helper()
	wrote := s.open(t).Wrote()
	for refused := 1; ; refused++ {
		u := s.open(t)
		u.Refuse(refused)
		n, e := s.tool(u)
		if e == api.OK {
			break
		}
		answersState(t, u)
		for _, keep := range rawimage.Keeps(u.Waiting()) {
			s.expects(t, s.is(t, u.Crash(keep...)), n, e)
		}
		if u.Wrote() > wrote {
			s.recoverCutOff(t, refused, n)
		}
		ok(t, u.Recover())
		if u.Broken() {
			t.Fatal(s.what, "it is still broken")
		}
		at := s.is(t, u.Bytes())
		s.expects(t, at, n, e)
		s.goesOn(t, u, at)
	}
}

// recoverCutOff: an operation was refused; now the power goes at each one of Recover.
func (s *scene) recoverCutOff(t *testing.T, refused, n int) {
	t.Helper()
	for stop := 1; ; stop++ {
		u := s.open(t)
		u.Refuse(refused)
		s.tool(u)
		u.Stop(stop)
		e := u.Recover()
		for _, keep := range rawimage.Keeps(u.Waiting()) {
			s.expects(t, s.is(t, u.Crash(keep...)), n, api.ErrIO)
		}
		if e == api.OK {
			return
		}
	}
}

// goesOn: the call is done once more, and ends where it would have ended; or says that it
// was done.
func (s *scene) goesOn(t *testing.T, u *trim.Tool, at int) {
	t.Helper()
	_, e := s.tool(u)
	last := len(s.states) - 1
	if e != api.OK && at < last {
		t.Fatal(s.what, "again: error", e)
	}
	if e == api.OK || at == last && (e == api.ErrTwice || e == api.ErrNone || e == api.ErrState) {
		if s.is(t, u.Bytes()) != last && s.call.name != "Write" && s.call.name != "Back" && s.call.name != "Resize" {
			t.Fatal(s.what, "again it ends elsewhere")
		}
		right(t, u.Bytes())
		return
	}
	t.Fatal(s.what, "again: error", e)
}

// small: disks of few sectors: many operations are tried.
func small() *guest {
	g := newGuest(44)
	g.fat(5, 34, rawguest.File{Name: "F", Data: pattern(900, 1)})
	return g
}

func smallExt() *guest {
	g := newGuest(56)
	g.ext(6, 20, rawguest.File{Name: "F", Data: pattern(900, 1)})
	return g
}

// spoiltTable: a world whose disk has a table one copy of which is spoilt.
func spoiltTable(t *testing.T, w *world) *world {
	t.Helper()
	u := w.open(t)
	ok(t, u.Write(image.Edit{At: 1024, B: []byte("spoilt")}))
	w.take(t, u)
	return w
}

// after: a world, behind some calls.
func after(t *testing.T, w *world, calls ...call) *world {
	t.Helper()
	u := w.open(t)
	for _, c := range calls {
		if _, e := c.tool(u); e != api.OK {
			t.Fatal(c.name, e)
		}
	}
	w.take(t, u)
	return w
}

// scenes: each call that changes an image, on several worlds.
func scenes(t *testing.T) []*scene {
	alone9, over9 := shape{9, 0, false, 21}, shape{9, 1, false, 22}
	snaps9, snapsOver := shape{9, 0, true, 23}, shape{10, 2, true, 24}
	at := image.Edit{At: 600, B: pattern(1500, 5)}
	far := image.Edit{At: 18000, B: pattern(700, 6)}
	list := []*scene{
		newScene(t, "alone", laid(t, small().mbr(), alone9), write(at, far)),
		newScene(t, "with snapshots", laid(t, small().gpt(), snapsOver), write(at, far)),
		newScene(t, "alone", laid(t, small().mbr(), alone9), snap("new")),
		newScene(t, "with snapshots", laid(t, small().mbr(), snapsOver), snap("new")),
		newScene(t, "alone", laid(t, small().mbr(), snaps9), drop("a")),
		newScene(t, "over others", laid(t, small().mbr(), snapsOver), drop("b-2")),
		newScene(t, "alone", laid(t, small().mbr(), snaps9), back("a")),
		newScene(t, "over others", laid(t, small().mbr(), snapsOver), back("a")),
		newScene(t, "alone", laid(t, small().mbr(), alone9), sparsify()),
		newScene(t, "over another", laid(t, small().gpt(), over9), sparsify()),
		newScene(t, "with snapshots", laid(t, small().mbr(), snaps9), sparsify()),
		newScene(t, "of groups", laid(t, smallExt().mbr(), shape{10, 1, true, 26}), sparsify()),
		newScene(t, "alone", laid(t, small().mbr(), alone9), squeeze()),
		newScene(t, "over others", laid(t, small().mbr(), snapsOver), squeeze()),
		newScene(t, "behind Sparsify", after(t, laid(t, small().mbr(), alone9), sparsify()), compact()),
		newScene(t, "with snapshots", after(t, laid(t, small().mbr(), snaps9), sparsify(), drop("a")), compact()),
		newScene(t, "over others", after(t, laid(t, small().gpt(), snapsOver), sparsify(), drop("a"), squeeze()), compact()),
		newScene(t, "FAT", laid(t, small().mbr(), snaps9), resizeTo(38)),
		newScene(t, "FAT", laid(t, small().gpt(), over9), resizeTo(20)),
		newScene(t, "groups", laid(t, smallExt().mbr(), snapsOver), resizeTo(48)),
		newScene(t, "groups", laid(t, smallExt().gpt(), alone9), resizeTo(33)),
		newScene(t, "over another", laid(t, small().mbr(), over9), pull()),
		newScene(t, "over others", laid(t, smallExt().gpt(), snapsOver), pull()),
		newScene(t, "over another", after(t, laid(t, small().mbr(), over9), pull()), alone()),
		newScene(t, "with a snapshot", after(t, laid(t, small().mbr(), over9), pull(), snap("whole")), alone()),
		newScene(t, "alone", spoiltTable(t, laid(t, small().gpt(), snaps9)), mend()),
		newScene(t, "over others", spoiltTable(t, laid(t, small().gpt(), snapsOver)), mend()),
	}
	return list
}

// P22.2, P22.3: whatever is cut off, or refused: done, or not begun, or done up to a step.
func TestAllOrNone(t *testing.T) {
	t.Parallel()
	for _, s := range scenes(t) {
		t.Run(s.what, func(t *testing.T) {
			t.Parallel()
			s.cutOff(t)
		})
	}
}

func TestRefused(t *testing.T) {
	t.Parallel()
	for _, s := range scenes(t) {
		t.Run(s.what, func(t *testing.T) {
			t.Parallel()
			s.refused(t)
		})
	}
}

// wayOf: the states that a call goes through, by the layers, on a file as it is seen; how
// many operations it takes.
func wayOf(t *testing.T, b []byte, behind [][]byte, c call) (list []state, ops int) {
	t.Helper()
	x := newTwin(t, b, behind)
	ops = x.f.Ops()
	list = []state{{0, essence(t, b)}}
	c.layer(x, func(n int) { list = append(list, state{n, essence(t, x.f.Bytes())}) })
	return list, x.f.Ops() - ops
}

// anyKept: what is left by a crash that keeps any of the writes that wait.
func anyKept(r *rand.Rand, u *trim.Tool) []byte {
	keep := make([]bool, u.Waiting())
	of := 1 + r.Intn(4)
	for i := range keep {
		keep[i] = r.Intn(of) == 0
	}
	return u.Crash(keep...)
}

// mended: a tool that goes on behind what has befallen it: it is recovered, at last, or
// the file is opened again behind a crash, with refusals and crashes meanwhile.
func mended(t *testing.T, r *rand.Rand, w *world, u *trim.Tool) *trim.Tool {
	t.Helper()
	for {
		var e api.Errno
		switch r.Intn(4) {
		case 0:
			u.Refuse(1 + r.Intn(12))
			e = u.Recover()
		case 1:
			u.Stop(1 + r.Intn(12))
			e = u.Recover()
			fallthrough
		case 2:
			u, e = trim.Open(anyKept(r, u), w.behind...)
			ok(t, e)
		case 3:
			u.Refuse(0)
			e = u.Recover()
		}
		u.Refuse(0)
		if e == api.OK {
			return u
		}
		if e != api.ErrIO {
			t.Fatal("Recover: error", e)
		}
	}
}

// TestAnyPower: calls, one behind the other, with refusals, with recoveries that are
// refused, and with crashes in between; what was done stays done, and nothing is lost.
func TestAnyPower(t *testing.T) {
	t.Parallel()
	cut, steps := 0, map[string]int{}
	for _, g := range guests() {
		for _, s := range shapes() {
			w := laid(t, g(), s)
			r := rand.New(rand.NewSource(s.seed + 100))
			u := w.open(t)
			for range 60 {
				c := anyCall(r, w)
				list, ops := wayOf(t, u.Bytes(), w.behind, c)
				at := max(1, ops+2-r.Intn(min(ops+2, 1<<r.Intn(10)+3)))
				switch r.Intn(3) {
				case 0:
					u.Refuse(at)
				case 1:
					u.Stop(at)
				}
				n, e := c.tool(u)
				done := slices.IndexFunc(list, func(x state) bool { return x.count == n })
				if e == api.ErrIO {
					cut++
				}
				if e == api.ErrIO || r.Intn(4) == 0 {
					u = mended(t, r, w, u)
				}
				u.Refuse(0)
				now := slices.IndexFunc(list, func(x state) bool { return x.essence == essence(t, u.Bytes()) })
				if now != done && !(e == api.ErrIO && now == done+1) && list[max(now, 0)].essence != list[max(done, 0)].essence || now < 0 {
					t.Fatalf("%s: %d, error %d: the state behind it is %d of %d", c.name, n, e, now, len(list))
				}
				if now > done {
					steps[c.name]++
				}
			}
			right(t, u.Bytes())
		}
	}
	if cut < 400 || len(steps) < 8 {
		t.Error("too few:", cut, steps)
	}
}
