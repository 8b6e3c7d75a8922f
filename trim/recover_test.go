package trim_test

import (
	"bytes"
	"testing"

	"fettle/api"
	"fettle/image"
	"fettle/trim"
)

// over: a file's bytes are all others.
func over(t *testing.T, u *trim.Tool, b []byte) {
	t.Helper()
	ok(t, u.Truncate(int64(len(b))))
	ok(t, u.File.Write(0, b))
	ok(t, u.Flush())
}

// TestRecoverSpoilt: a file that is no right image any longer makes the tool broken, with
// each error that Open has; and it is right again, when the file is.
func TestRecoverSpoilt(t *testing.T) {
	for _, s := range []shape{{9, 0, true, 1}, {10, 2, true, 1}} {
		w := laid(t, twoVolumes().mbr(), s)
		u := w.open(t)
		for _, x := range wrongs(t, w) {
			if len(x.b) > api.MaxFile {
				continue // no file has so many
			}
			over(t, u, x.b)
			if u.Broken() {
				t.Fatal("it is broken ahead of Recover")
			}
			if e := u.Recover(); e != x.want {
				t.Errorf("%s: error %d, not %d", x.what, e, x.want)
			}
			answersState(t, u)
			if e := u.Recover(); e != x.want {
				t.Errorf("%s, again: error %d, not %d", x.what, e, x.want)
			}
			answersState(t, u)
			over(t, u, w.b)
			answersState(t, u)
			ok(t, u.Recover())
			w.shows(t, u.Bytes(), false)
			if _, e := u.Compact(); e != api.OK {
				t.Error("it doesn't go on:", e)
			}
			over(t, u, w.b)
			ok(t, u.Recover())
		}
	}
}

// TestRecoverAnew: the image is the file's, as it is seen, also if that is another one; a
// tool that isn't broken may be recovered.
func TestRecoverAnew(t *testing.T) {
	w := laid(t, oneFat().mbr(), shape{bits: 9, seed: 1})
	other := laid(t, oneExt().gpt(), shape{bits: 11, snap: true, seed: 2})
	u := w.open(t)
	was := u.Image()
	ok(t, u.Recover())
	if u.Broken() || u.Image() == was || u.Wrote() != 0 {
		t.Error("it isn't opened anew")
	}
	ok(t, u.Truncate(int64(len(other.b))))
	ok(t, u.File.Write(0, other.b)) // it isn't safe yet
	ok(t, u.Recover())
	d := u.Image().Active()
	if b, e := d.Read(0, d.Size()); e != api.OK || !bytes.Equal(b, other.active) {
		t.Error("another disk is seen; error", e)
	}
	ok(t, u.Drop("a"))
	ok(t, u.Recover())
	if e := u.Back("a"); e != api.ErrNone {
		t.Error(e)
	}
}

// TestRecoverBehind: the disk behind stays behind, till the image is alone; then nothing
// is.
func TestRecoverBehind(t *testing.T) {
	w := laid(t, twoVolumes().gpt(), shape{bits: 10, behind: 2, seed: 4})
	u := w.open(t)
	ok(t, u.Recover())
	w.shows(t, u.Bytes(), false)
	if u.Image().Behind() == nil {
		t.Error("nothing is behind it")
	}
	if e := u.Alone(); e != api.ErrCross {
		t.Error("Alone:", e)
	}
	if _, e := u.Pull(); e != api.OK {
		t.Error("Pull:", e)
	}
	ok(t, u.Alone())
	if u.Image().Behind() != nil || u.Image().Backed {
		t.Error("something is behind it")
	}
	ok(t, u.Recover())
	if u.Image().Behind() != nil || u.Alone() != api.ErrState {
		t.Error("something is behind it again")
	}
	w.back = nil
	w.shows(t, u.Bytes(), false)
}

// TestRecoverWhatItReads: Recover, refused at each operation; and done again.
func TestRecoverRefused(t *testing.T) {
	w := laid(t, oneFat().mbr(), shape{bits: 9, behind: 1, snap: true, seed: 4})
	for refused := 1; ; refused++ {
		u := w.open(t)
		u.Refuse(refused)
		if e := u.Write(image.Edit{At: 700, B: []byte("new")}, image.Edit{At: 9000, B: []byte("new")}); e == api.OK {
			break
		}
		left := u.Bytes()
		for n := 1; ; n++ {
			u.Refuse(n)
			e := u.Recover()
			if e == api.OK {
				break
			}
			if e != api.ErrIO {
				t.Fatal(refused, n, e)
			}
			answersState(t, u)
		}
		u.Refuse(0)
		d, e := u.Image().Active().Read(0, int64(len(w.active)))
		ok(t, e)
		done := bytes.Clone(w.active)
		copy(done[700:], "new")
		copy(done[9000:], "new")
		if !bytes.Equal(d, w.active) && !bytes.Equal(d, done) {
			t.Fatal(refused, "neither done nor not begun")
		}
		again, e := trim.Open(left, w.behind...)
		ok(t, e)
		if b, e := again.Image().Active().Read(0, int64(len(d))); e != api.OK || !bytes.Equal(b, d) {
			t.Fatal(refused, "it isn't as when the file is opened")
		}
		ok(t, u.Write(image.Edit{At: 1, B: []byte("going on")}))
		right(t, u.Bytes())
	}
}
