package audit_test

import (
	"encoding/binary"
	"math/rand"
	"testing"

	"fettle/api"
	"fettle/audit"
	"fettle/header"
	"fettle/image"
)

// Each byte of an image is another one, one by one.
func TestEachByte(t *testing.T) {
	b := laid()
	for at := range b {
		was := b[at]
		values := []byte{was ^ 1, was ^ 0x80, was + 1, 38, 255}
		if at >= 1024 && at < countsAt { // bytes of the journal, which has no sign
			values = values[:1]
		}
		for _, v := range values {
			b[at] = v
			looked(t, b)
		}
		b[at] = was
	}
	looked(t, b)
}

// changer makes of an image another one, by numbers that look like any.
type changer struct {
	*rand.Rand
	h header.Header
	b []byte
}

// cluster: one that an entry may lead to, or one beside these.
func (c *changer) cluster() uint64 {
	switch c.Intn(12) {
	case 0:
		return uint64(c.Intn(9000))
	case 1:
		return uint64(int(c.h.First()) - 2 + c.Intn(3))
	case 2:
		return uint64(int(c.h.Host) - 1 + c.Intn(3))
	}
	there := int(int64(len(c.b))/c.h.Cluster() - c.h.First())
	return uint64(int(c.h.First()) + c.Intn(there+1))
}

func (c *changer) number() uint64 {
	switch c.Intn(10) {
	case 0:
		return 0
	case 1:
		return 1
	case 2:
		return uint64(c.Intn(2000))
	case 3:
		return owned(c.cluster())
	}
	return data(c.cluster())
}

func (c *changer) put(at int64, b []byte) {
	if at >= 0 && at+int64(len(b)) <= int64(len(c.b)) {
		copy(c.b[at:], b)
	}
}

// table: the cluster of one that is there.
func (c *changer) table() int64 {
	x, e := byWords(c.b)
	if e != api.OK || len(x.Refs) == 0 || c.Intn(3) == 0 {
		return c.h.First() - 1
	}
	return x.Refs[c.Intn(len(x.Refs))].Cluster
}

// change: one thing becomes another.
func (c *changer) change() {
	size := c.h.Cluster()
	switch c.Intn(12) {
	case 0: // a count
		c.put(c.h.RefsAt().From+2*c.Int63n(c.h.Host), []byte{byte(c.Intn(3)), byte(c.Intn(9) / 8)})
	case 1: // a row
		row := make([]byte, 32)
		copy(row, []string{"a", "b", "sn", "A", ""}[c.Intn(5)])
		binary.LittleEndian.PutUint64(row[16:], c.cluster())
		row[24] = byte(c.Intn(4))
		c.put(c.h.SnapsAt().From+32*c.Int63n(9), row)
	case 2:
		c.put(c.Int63n(int64(len(c.b))), []byte{byte(c.Intn(256))})
	case 3:
		c.put(c.Int63n(28), []byte{byte(c.Intn(256))})
	case 4: // shorter, or longer
		n := len(c.b) - c.Intn(int(3*size))
		if c.Intn(2) == 0 || n < 1 {
			c.b = append(c.b, make([]byte, c.Intn(int(3*size)))...)
		} else {
			c.b = c.b[:n]
		}
	default: // an entry, most often one for which there are guest's clusters
		i := c.Int63n(c.h.Entries())
		if c.Intn(4) > 0 {
			i %= 3
		}
		c.put(c.table()*size+8*i, binary.LittleEndian.AppendUint64(nil, c.number()))
	}
}

// Images with any changes: with the counts as they were, and with those that
// their references ask for.
func TestAnyChanges(t *testing.T) {
	var from [][]byte
	for _, h := range kinds(false) {
		w := empty(t, h)
		r := rand.New(rand.NewSource(4))
		for range 40 {
			w.step(t, r)
		}
		from = append(from, w.f.Bytes())
	}
	from = append(from, laid(), laid(), laid())
	told := map[api.Errno]int{}
	r := rand.New(rand.NewSource(12))
	for n := range 12000 {
		b := append([]byte(nil), from[n%len(from)]...)
		h, e := header.Decode(b)
		ok(t, e)
		c := &changer{Rand: r, h: h, b: b}
		for range 1 + r.Intn(4) {
			c.change()
		}
		_, e = looked(t, c.b)
		told[e]++
		if recount(c.b) {
			_, e = looked(t, c.b)
			told[e]++
		}
	}
	for _, e := range []api.Errno{api.OK, api.ErrRange, api.ErrMagic, api.ErrForm, api.ErrCross, api.ErrName, api.ErrTwice, api.ErrLimit, api.ErrCount} {
		if told[e] < 20 {
			t.Errorf("the error %d was told %d times", e, told[e])
		}
	}
}

// Any bytes behind a header that is right, and any bytes at all.
func TestAnyBytes(t *testing.T) {
	r := rand.New(rand.NewSource(6))
	for _, h := range kinds(true) {
		head, e := h.Encode()
		ok(t, e)
		for n := range 20 {
			b := pattern(int(h.First()*h.Cluster())+r.Intn(9000), int64(n))
			copy(b, head)
			looked(t, b)
			clear(b[h.SnapsAt().From:h.SnapsAt().To])
			looked(t, b)
			clear(b[h.TopAt().From:h.TopAt().To])
			wants(t, "any counts", b, api.ErrCount)
			looked(t, b)
		}
	}
	for n := range 2000 {
		looked(t, pattern(r.Intn(20000), int64(n)))
	}
}

func FuzzCheck(f *testing.F) {
	f.Add(laid())
	for _, x := range faults {
		b := laid()
		x.lay(b)
		f.Add(b)
	}
	for _, h := range kinds(true) {
		b, _ := image.Make(h)
		f.Add(b)
	}
	f.Fuzz(func(t *testing.T, b []byte) {
		x, e := looked(t, b)
		if e != api.OK {
			return
		}
		used := 0
		for n, role := range x.Role {
			if role != 0 {
				used++
			}
			if len(x.Spots(int64(n))) == 0 != (role == 0 || role == audit.Fixed) {
				t.Error("a cluster with the role", role)
			}
		}
		if x.Used() != used {
			t.Error("Used", x.Used())
		}
	})
}
