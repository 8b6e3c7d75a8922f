package plan_test

import (
	"bytes"
	"math/rand"
	"slices"
	"testing"

	"fettle/api"
	"fettle/disk"
	"fettle/image"
	"fettle/maps"
	"fettle/plan"
	"fettle/snapshot"
)

// reported: Make's answer is what it must be, by the guest's disk and the file's bytes;
// nothing is written. The report.
func (h *host) reported(t *testing.T) plan.Report {
	t.Helper()
	ahead, wrote := h.f.Bytes(), h.f.Wrote()
	got, e := plan.Make(h.Image)
	ok(t, e)
	if h.f.Wrote() != wrote || !bytes.Equal(h.f.Bytes(), ahead) {
		t.Fatal("something is written")
	}
	free := h.sectors(gap, unused)
	if !sameVolumes(got.Volumes, h.list) || !slices.Equal(got.Free, free) {
		t.Fatalf("%+v, not %+v; %v, not %v", got.Volumes, h.list, got.Free, free)
	}
	whole := map[int64]int{}
	bytesOf := int64(0)
	for g := range h.Guest() {
		if free.Covers(api.Ext{From: g * h.Cluster(), To: (g + 1) * h.Cluster()}) {
			whole[g] = 1
			bytesOf += h.Cluster()
			if !got.Whole.Covers(api.Ext{From: g * h.Cluster(), To: (g + 1) * h.Cluster()}) {
				t.Fatal("not in Whole:", g)
			}
		}
	}
	if got.Whole.Bytes() != bytesOf {
		t.Fatal("too much in Whole:", got.Whole)
	}
	var want []int64
	owned, _ := h.owned(t)
	for _, g := range owned {
		if whole[g] > 0 {
			want = append(want, g)
		}
	}
	if !sameSteps(got.Steps, inSteps(want)) || got.Bytes != int64(len(want))*h.Cluster() {
		t.Fatalf("%v, not %v; %d bytes", got.Steps, want, got.Bytes)
	}
	if got.Kind != h.becomes() {
		t.Fatal("another kind:", got.Kind)
	}
	return got
}

// becomes: what clusters become.
func (h *host) becomes() int {
	if h.behind != nil {
		return maps.Zero
	}
	return maps.None
}

// blanks: Blanks' answer is what it must be; nothing is written.
func (h *host) blanks(t *testing.T) [][]int64 {
	t.Helper()
	ahead, wrote := h.f.Bytes(), h.f.Wrote()
	got, kind, e := plan.Blanks(h.Image)
	ok(t, e)
	if h.f.Wrote() != wrote || !bytes.Equal(h.f.Bytes(), ahead) {
		t.Fatal("something is written")
	}
	if _, want := h.owned(t); !sameSteps(got, inSteps(want)) || kind != h.becomes() {
		t.Fatalf("%v, not %v; kind %d", got, want, kind)
	}
	return got
}

// shows: the active disk is the guest's, but that what is free may be noughts.
func (h *host) shows(t *testing.T) []byte {
	t.Helper()
	b, e := h.Active().Read(0, h.Active().Size())
	ok(t, e)
	for _, x := range h.sectors(held, taken) {
		if !bytes.Equal(b[x.From:x.To], h.d[x.From:x.To]) {
			t.Fatal("something is lost, between", x)
		}
	}
	return b
}

// all: all clusters of a host, in any order.
func (h *host) all(r *rand.Rand) (list []int64) {
	for _, n := range r.Perm(int(h.Guest())) {
		list = append(list, int64(n))
	}
	return list
}

// anyHost: an image with any clusters of a guest's disk, of its own, of a snapshot's, of
// noughts; those that it doesn't hold are behind it, or noughts.
func anyHost(t *testing.T, r *rand.Rand, g *guest) *host {
	bits := 9 + r.Intn(4)
	var behind []byte
	if r.Intn(2) == 0 {
		behind = slices.Clone(g.d)[:len(g.d)/512*512]
	}
	h := newHost(t, g, bits, behind)
	free, _ := g.sectors(gap, unused).Inward(h.Cluster())
	list := h.all(r)
	put := func(most int) (own []int64) {
		for _, c := range list {
			at := c * h.Cluster()
			inFree := free.Has(at)
			if inFree && r.Intn(8) < 2 { // a free cluster may be anything
				copy(h.d[at:at+h.Cluster()], make([]byte, h.Cluster()))
			}
			if r.Intn(8) < most || !inFree && behind == nil {
				h.put(t, c)
				own = append(own, c)
			}
		}
		return own
	}
	put(5)
	if r.Intn(2) == 0 {
		ok(t, snapshot.Create(h.Image, "a"))
		put(1 + r.Intn(3))
	}
	for _, c := range list {
		if x, own, e := h.Active().Entry(c); e == api.OK && own && x.Kind == maps.Data && free.Has(c*h.Cluster()) && r.Intn(8) == 0 {
			ok(t, h.Punch(r.Intn(2), c))
		}
	}
	return h
}

// TestMakeAny: whatever an image holds; then what is told is punched, and nothing but that
// is lost.
func TestMakeAny(t *testing.T) {
	steps, kinds, blanks := 0, map[int]int{}, 0
	for seed := range int64(40) {
		r := rand.New(rand.NewSource(seed))
		g := anyMbr(r)
		if seed%3 == 0 {
			g = anyGpt(r)
		}
		h := anyHost(t, r, g)
		h.shows(t)
		blanks += len(h.blanks(t))
		got := h.reported(t)
		kinds[got.Kind]++
		ahead := h.shows(t)
		for _, step := range got.Steps {
			ok(t, h.Punch(got.Kind, step...))
			for _, c := range step {
				clear(ahead[c*h.Cluster() : (c+1)*h.Cluster()])
			}
			steps++
		}
		if !bytes.Equal(h.shows(t), ahead) {
			t.Fatal("other bytes than those are lost")
		}
		if again := h.reported(t); len(again.Steps) > 0 || again.Bytes != 0 {
			t.Fatal("there is still something to be given back")
		}
		for _, step := range h.blanks(t) {
			ok(t, h.Punch(got.Kind, step...))
		}
		if !bytes.Equal(h.shows(t), ahead) || len(h.blanks(t)) > 0 {
			t.Fatal("blanks: other bytes, or still some")
		}
	}
	if steps < 100 || kinds[maps.None] < 5 || kinds[maps.Zero] < 5 || blanks < 30 {
		t.Error("too few:", steps, kinds, blanks)
	}
}

// byHand: a disk of 100 sectors without a partition, in an image with clusters of 512 bytes.
func byHand(t *testing.T, behind []byte) *host {
	g := newGuest(100, 0, 8)
	g.sector(0)
	h := newHost(t, g, 9, behind)
	h.put(t, 0)
	return h
}

// TestSteps: steps of eight, and a last one of fewer; each has room of its own.
func TestSteps(t *testing.T) {
	for _, n := range []int64{0, 1, 7, 8, 9, 16, 17, 99} {
		h := byHand(t, nil)
		for c := n; c > 0; c-- {
			h.put(t, c)
		}
		got := h.reported(t)
		if len(got.Steps) != int(n+7)/8 || got.Bytes != 512*n {
			t.Error(n, got.Steps)
		}
		for c := range n {
			ok(t, h.Write(image.Edit{At: 512 * (c + 1), B: make([]byte, 512)}))
		}
		blank := h.blanks(t)
		if len(blank) != int(n+7)/8 {
			t.Error(n, blank)
		}
		for _, steps := range [][][]int64{got.Steps, blank} {
			kept := inSteps(slices.Concat(steps...))
			for i := range steps {
				_ = append(steps[i], -1, -2, -3)
			}
			if !sameSteps(steps, kept) {
				t.Error("what is put behind a step runs into the next")
			}
		}
	}
}

// TestOwn: clusters that a snapshot has, too, aren't given back, nor noughts, nor what is
// behind.
func TestOwn(t *testing.T) {
	for _, behind := range [][]byte{nil, pattern(50*512, 3), {}} {
		h := byHand(t, behind)
		h.put(t, 1, 2, 3)
		ok(t, snapshot.Create(h.Image, "s"))
		if got := h.reported(t); len(got.Steps) > 0 || got.Whole.Bytes() != 99*512 {
			t.Error("a snapshot's", got.Steps)
		}
		h.put(t, 2, 70) // 64 clusters in a table: the second one's is the active disk's alone
		if got := h.reported(t); !sameSteps(got.Steps, [][]int64{{2, 70}}) {
			t.Error(got.Steps)
		}
		ok(t, h.Punch(maps.Zero, 2))
		ok(t, h.Punch(maps.None, 70))
		if got := h.reported(t); len(got.Steps) > 0 {
			t.Error(got.Steps)
		}
		ok(t, snapshot.Delete(h.Image, "s"))
		if got := h.reported(t); !sameSteps(got.Steps, [][]int64{{1, 3}}) {
			t.Error(got.Steps)
		}
		h.blanks(t)
	}
}

// TestWhole: clusters of more sectors than one, that lie in what is free in part, or whole;
// the last one, that the disk's end cuts, isn't whole.
func TestWhole(t *testing.T) {
	for bits, want := range map[int][]int64{9: {1, 2, 3, 10, 11, 12, 13, 14, 15, 16}, 10: {1, 5, 6, 7}, 11: {3}, 12: nil} {
		g := newGuest(17, 0, 4)
		g.partition(4, pattern(6*512, 1), 0, api.ErrMagic, nil) // sectors 4 to 9
		g.sector(0, g.slots...)
		h := newHost(t, g, bits, nil)
		for c := range h.Guest() {
			h.put(t, c)
		}
		got := h.reported(t)
		if !slices.Equal(slices.Concat(got.Steps...), want) {
			t.Error(bits, got.Steps)
		}
	}
}

// TestLastBlank: a last cluster that the disk's end cuts may be a blank.
func TestLastBlank(t *testing.T) {
	g := newGuest(15, 0, 4)
	h := newHost(t, g, 12, nil)
	clear(h.d[8*512:])
	h.put(t, 0, 1)
	if got := h.blanks(t); !sameSteps(got, [][]int64{{1}}) {
		t.Error(got)
	}
	if _, e := plan.Make(h.Image); e == api.OK {
		t.Error("a disk without a right table")
	}
}

// makeFails: Make answers an error, and nothing else; so does Blanks, with its own.
func makeFails(t *testing.T, what string, im *image.Image, want, blanks api.Errno) {
	t.Helper()
	if r, e := plan.Make(im); e != want || len(r.Volumes)+len(r.Free)+len(r.Whole)+len(r.Steps) > 0 || r.Bytes != 0 || r.Kind != 0 {
		t.Errorf("%s: Make: error %d, not %d; %+v", what, e, want, r)
	}
	if l, kind, e := plan.Blanks(im); e != blanks || e != api.OK && (len(l) > 0 || kind != 0) {
		t.Errorf("%s: Blanks: error %d, not %d; %v %d", what, e, blanks, l, kind)
	}
}

// TestMakeErrors: no image; no right table on its disk; tables of its own that aren't right.
func TestMakeErrors(t *testing.T) {
	makeFails(t, "no image", nil, api.ErrNil, api.ErrNil)
	makeFails(t, "an image that wasn't opened", &image.Image{}, api.ErrNil, api.ErrNil)
	h := newHost(t, newGuest(100, 0, 8), 9, nil)
	makeFails(t, "noughts", h.Image, api.ErrMagic, api.OK)
	h = byHand(t, nil)
	h.put(t, 1, 2, 70)
	for at, want := range map[int64]api.Errno{h.TopAt().From + 8: api.ErrForm, h.TopAt().From + 15: api.ErrForm} {
		b := h.f.Bytes()
		b[at] = 3 // of the top table's second entry
		f, e := disk.New(b)
		ok(t, e)
		im, e := image.Open(f, nil)
		ok(t, e)
		makeFails(t, "a top table's entry", im, want, want)
	}
}

// TestMakeRefused: each operation of the file may be refused.
func TestMakeRefused(t *testing.T) {
	r := rand.New(rand.NewSource(3))
	h := newHost(t, anyGpt(r), 12, nil)
	h.put(t, h.all(r)...)
	ops := func(call func()) int {
		n := h.f.Ops()
		call()
		return h.f.Ops() - n
	}
	most := ops(func() { h.reported(t) })
	for n := 1; n <= most; n += 1 + most/200 {
		h.f.Refuse(n)
		if r, e := plan.Make(h.Image); e != api.ErrIO && n < most/3 || e == api.ErrIO && (len(r.Volumes)+len(r.Free)+len(r.Whole)+len(r.Steps) > 0 || r.Bytes != 0 || r.Kind != 0) {
			t.Fatal("refused", n, e, r)
		}
	}
	h.f.Refuse(0)
	most = ops(func() { _, _, _ = plan.Blanks(h.Image) })
	for n := 1; n <= most; n += 1 + most/100 {
		h.f.Refuse(n)
		if l, kind, e := plan.Blanks(h.Image); e != api.ErrIO || len(l) > 0 || kind != 0 {
			t.Fatal("refused", n, e, l)
		}
	}
	h.f.Refuse(0)
	h.reported(t)
}

// TestReportIsNew: lists that are answered are the caller's, and no two have one place.
func TestReportIsNew(t *testing.T) {
	r := rand.New(rand.NewSource(4))
	g := newGuest(400, 0, 5)
	g.fat(r, 10)
	g.ext(r, 200)
	g.sector(0, g.slots...)
	h := newHost(t, g, 9, nil)
	h.put(t, h.all(r)...)
	got, want := h.reported(t), h.reported(t)
	clear(got.Whole)
	if !slices.Equal(got.Free, want.Free) {
		t.Error("Whole is Free")
	}
	clear(got.Free)
	if !sameVolumes(got.Volumes, want.Volumes) {
		t.Error("Free is a volume's")
	}
	clear(got.Volumes[0].Free)
	clear(got.Steps[0])
	if !slices.Equal(got.Steps[1], want.Steps[1]) || !slices.Equal(got.Volumes[1].Free, want.Volumes[1].Free) {
		t.Error("two of one kind have one place")
	}
	h.reported(t)
}
