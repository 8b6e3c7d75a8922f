package console_test

import (
	"bytes"
	"fmt"
	"hash/crc32"
	"math"
	"math/rand"
	"slices"
	"strings"
	"testing"

	"fettle/api"
	"fettle/audit"
	"fettle/console"
	"fettle/ext"
	"fettle/extdir"
	"fettle/extent"
	"fettle/fat"
	"fettle/fatdir"
	"fettle/gpt"
	"fettle/header"
	"fettle/image"
	"fettle/mbr"
	"fettle/parts"
	"fettle/plan"
	"fettle/resize"
	"fettle/snapshot"
	"fettle/trim"
)

// twin is what a player must do, by the chapter's words: of each word the calls of the
// layers that it names.
type twin struct {
	tool *trim.Tool
	left []byte
}

// is: an answer, unless there is an error.
func is(e api.Errno, words ...any) string {
	if e != api.OK {
		return fmt.Sprint("error ", int(e))
	}
	return strings.TrimSuffix(fmt.Sprintln(words...), "\n")
}

// ok: the answer of what has nothing to tell.
func ok(e api.Errno) string { return is(e, "ok") }

// ranges: a set's parts, a blank between.
func ranges(s extent.Set) string {
	text := ""
	for i, x := range s.All() {
		if i > 0 {
			text += " "
		}
		text += fmt.Sprintf("%d-%d", x.From, x.To)
	}
	return text
}

// do: what an order answers.
func (x *twin) do(o console.Order) string {
	switch {
	case o.Word == "make":
		return x.begin(o.Nums)
	case o.Word == "recover" && x.tool != nil:
		return ok(x.tool.Recover())
	case o.Word == "recover":
		return x.open(x.left)
	case x.tool == nil:
		return "error 6"
	case x.tool.Broken() && slices.Contains(strings.Fields("get see list parts check length dry differ tree lost odd"), o.Word):
		return "error 6"
	}
	return x.act(o)
}

func (x *twin) open(b []byte) string {
	u, e := trim.Open(b)
	if e == api.OK {
		x.tool = u
	}
	return ok(e)
}

func (x *twin) begin(nums []int64) string {
	h := header.Header{Bits: int(max(0, min(99, nums[0]))), Size: nums[1], Host: nums[2]}
	if len(nums) == 4 {
		h.Journal = nums[3]
	} else {
		h.Journal = h.Least()
	}
	b, e := image.Make(h)
	if e != api.OK {
		return ok(e)
	}
	return x.open(b)
}

// act: an order of a tool that is there.
func (x *twin) act(o console.Order) string {
	u := x.tool
	switch o.Word {
	case "mbr":
		return x.mbr(o.Nums)
	case "gpt":
		return x.gpt(o.Nums)
	case "fat":
		b, e := fat.Make(o.Nums[1], o.Nums[2])
		return x.lay(o.Nums[0], b, e)
	case "ext":
		b, e := ext.Make(o.Nums[1], o.Nums[2], o.Nums[3])
		return x.lay(o.Nums[0], b, e)
	case "put":
		if len(o.Nums) == 0 {
			return ok(u.Write(image.Edit{}))
		}
		b := make([]byte, len(o.Nums)-1)
		for i := range b {
			b[i] = byte(o.Nums[i+1] & 255)
		}
		return ok(u.Write(image.Edit{At: o.Nums[0], B: b}))
	case "snap":
		return ok(u.Snap(o.Name))
	case "drop":
		return ok(u.Drop(o.Name))
	case "back":
		return ok(u.Back(o.Name))
	case "resize":
		return ok(u.Resize(o.Nums[0]))
	case "trim":
		r, n, e := u.Sparsify()
		return is(e, "trimmed", n, r.Bytes)
	case "squeeze":
		n, e := u.Squeeze()
		return is(e, "squeezed", n)
	case "mend":
		n, e := u.Mend()
		return is(e, "mended", n)
	case "compact":
		n, e := u.Compact()
		return is(e, "moved", n)
	case "refuse":
		u.Refuse(int(max(0, min(api.MaxOps, o.Nums[0]))))
		return "ok"
	case "stop":
		u.Stop(int(max(0, min(api.MaxOps, o.Nums[0]))))
		return "ok"
	case "crash":
		var keep []bool
		for _, n := range o.Nums {
			keep = append(keep, n != 0)
		}
		x.left = u.Crash(keep...)
		x.tool = nil
		return is(api.OK, "left", len(x.left))
	}
	return x.tell(o)
}

func (x *twin) mbr(nums []int64) string {
	var list []mbr.Entry
	for i := 0; i+2 < len(nums); i += 3 {
		list = append(list, mbr.Entry{Type: int(nums[i] & 255), First: nums[i+1], Count: nums[i+2]})
	}
	b, e := mbr.Make(list...)
	if e != api.OK {
		return ok(e)
	}
	return ok(x.tool.Write(image.Edit{B: b}))
}

func (x *twin) gpt(nums []int64) string {
	n := x.tool.Image().Active().Size() / 512
	g := gpt.Table{Sectors: n, At: 2, First: 3, Last: n - 3, Behind: n - 2, List: make([]gpt.Entry, 4)}
	for i := 0; i+1 < len(nums); i += 2 {
		g.List[i/2].Ids[0], g.List[i/2].Ids[16] = 1, []byte{1, 3, 5, 7}[i/2]
		g.List[i/2].First, g.List[i/2].Last = nums[i], nums[i+1]
	}
	l, e := g.Encode()
	if e != api.OK {
		return ok(e)
	}
	b, e := mbr.Make(mbr.Entry{Type: mbr.Guard, First: 1, Count: n - 1})
	edits := []image.Edit{{B: b}}
	for _, p := range l {
		edits = append(edits, image.Edit{At: p.At, B: p.B})
	}
	return ok(max(e, x.tool.Write(edits...)))
}

func (x *twin) lay(sector int64, b []byte, e api.Errno) string {
	switch {
	case e != api.OK:
		return ok(e)
	case sector < 0, sector > 32768, 512*sector+int64(len(b)) > x.tool.Image().Active().Size():
		return "error 4"
	}
	for at := 0; at < len(b); at += 4096 {
		if e := x.tool.Write(image.Edit{At: 512*sector + int64(at), B: b[at:min(at+4096, len(b))]}); e != api.OK {
			return ok(e)
		}
	}
	return "ok"
}

// tell: an order that tells of the image.
func (x *twin) tell(o console.Order) string {
	u, im := x.tool, x.tool.Image()
	switch o.Word {
	case "get":
		b, e := im.Active().Read(o.Nums[0], o.Nums[1])
		return is(e, told(b))
	case "see":
		v, e := snapshot.View(im, o.Name)
		if e != api.OK {
			return ok(e)
		}
		b, e := v.Read(o.Nums[0], o.Nums[1])
		return is(e, told(b))
	case "list":
		l, e := snapshot.List(im)
		words := []any{"snapshots", len(l)}
		for _, s := range l {
			words = append(words, s.Name)
		}
		return is(e, words...)
	case "parts":
		m, e := parts.Parse(im.Active())
		words := []any{"parts", m.Kind}
		for _, p := range m.Parts {
			words = append(words, fmt.Sprintf("%d-%d", p.Ext.From, p.Ext.To))
		}
		return is(e, words...)
	case "check":
		info, e := audit.Check(u.Bytes())
		return is(e, "clusters", info.Used(), len(info.Refs))
	case "length":
		return is(api.OK, "length", len(u.Bytes()))
	case "dry":
		r, e := u.Dry()
		text := fmt.Sprintf("free %d %d %d", r.Free.Bytes(), r.Bytes, len(r.Steps))
		for _, v := range r.Volumes {
			text += fmt.Sprintf(" volume %d %d %d", v.Kind, v.E, v.Free.Bytes())
		}
		return is(e, text+" "+ranges(r.Whole))
	case "differ":
		v, e := snapshot.View(im, o.Name)
		if e != api.OK {
			return ok(e)
		}
		s, e := plan.Differ(v, im.Active())
		return is(e, fmt.Sprintf("differ %d %s", s.Bytes(), ranges(s)))
	}
	return x.partition(o)
}

// partition: an order that tells of one.
func (x *twin) partition(o console.Order) string {
	d := x.tool.Image().Active()
	m, e := parts.Parse(d)
	if e != api.OK {
		return ok(e)
	}
	n := o.Nums[0]
	if n < 0 || n > int64(len(m.Parts))-1 {
		return "error 22"
	}
	w, e := parts.Window(d, m.Parts[n].Ext)
	if e != api.OK {
		return ok(e)
	}
	kind, paths, _, e := resize.Known(w)
	if o.Word == "odd" && kind != resize.Ext && e != api.ErrIO {
		return "error 6"
	}
	if e != api.OK {
		return ok(e)
	}
	switch o.Word {
	case "tree":
		words := []any{"tree", kind, len(paths)}
		for _, p := range paths {
			sum := uint32(0)
			if p.Kind == api.File {
				var b []byte
				if b, e = parts.Content(w, p); e != api.OK {
					break
				}
				sum = crc32.ChecksumIEEE(b)
			}
			words = append(words, fmt.Sprintf("%q", p.Name), p.Size, sum)
		}
		return is(e, words...)
	case "lost":
		lost := map[int]func(api.Disk) ([]int64, api.Errno){resize.Fat: fatdir.Lost, resize.Ext: extdir.Lost}[kind]
		l, e := lost(w)
		words := []any{"lost", len(l)}
		for _, x := range l {
			words = append(words, x)
		}
		return is(e, words...)
	}
	l, e := extdir.Odd(w)
	words := []any{"odd", len(l)}
	for _, x := range l {
		words = append(words, x.Node, x.Rows, x.Said)
	}
	return is(e, words...)
}

// some: an order of a word, with the numbers of one of the texts.
func some(r *rand.Rand, word string, texts ...string) console.Order {
	o := console.Order{Word: word}
	for _, w := range strings.Fields(texts[r.Intn(len(texts))]) {
		var n int64
		fmt.Sscan(w, &n)
		o.Nums = append(o.Nums, n)
	}
	return o
}

// extremes: numbers at all bounds.
var extremes = []int64{
	math.MinInt64, math.MinInt64 + 1, -1 << 40, math.MinInt32, -4096, -512, -2, -1, 0, 1, 2, 8, 99, 100, 255, 256, 511, 512, 513, 4096, 32767, 32768, 32769,
	api.MaxOps - 1, api.MaxOps, api.MaxOps + 1, api.MaxFile, api.MaxGuest, api.MaxGuest + 1, math.MaxInt32, math.MaxUint32, 1 << 40, 1 << 53, 1 << 54, 1 << 62, math.MaxInt64 - 512, math.MaxInt64,
}

// anyOrder: one that does something, most often.
func anyOrder(r *rand.Rand) console.Order {
	l := forms()
	f := l[r.Intn(len(l))]
	if r.Intn(12) == 0 { // any numbers
		o := f.order(f.least + r.Intn(f.most-f.least+1))
		for i := range o.Nums {
			o.Nums[i] = extremes[r.Intn(len(extremes))]
		}
		return o
	}
	o := console.Order{Word: f.word}
	switch f.word {
	case "make":
		o = some(r, "make", "9 153600 700", "10 153600 400", "10 153088 400 60", "11 153600 200", "12 153600 180", "9 153600 90", "9 512 400", "9 65536 400 28", "8 512 512", "9 1000 400", "200 512 400", "9 65536 8193")
		if r.Intn(6) > 0 {
			o = console.Order{Word: "list"} // not too often: all begins anew
		}
	case "mbr":
		o = some(r, "mbr", "12 8 64 131 80 140", "12 8 64 131 80 140", "12 8 64 131 80 140", "12 8 64 131 80 140", "12 8 64 131 80 140", "131 80 140 12 8 64", "12 8 64", "131 80 140", "12 8 64 131 80 140 7 230", "12 8 80 131 80 140", "", "5 8 64 7 80 9", "238 1 299", "12 290 64", "268 8 64 -125 80 140", "12 8 4294967296", "7 1 2 7 3 4 7 5 6 7 7 8")
	case "gpt":
		o = some(r, "gpt", "8 71 80 219", "8 71 80 219", "8 71 80 219", "80 219 8 71", "8 71", "80 219", "", "8 71 80", "8 80 80 219", "2 71", "3 297", "3 298", "4 4 5 5 6 6 7 7")
	case "fat":
		o = some(r, "fat", "8 64 1", "8 64 1", "8 60 2", "80 140 1", "236 64 1", "237 64 1", "8 15 1", "8 64 3", "-1 64 1", "8 32768 1", "32769 64 1", "40000 15 3")
	case "ext":
		o = some(r, "ext", "80 70 64 16", "80 70 64 16", "80 70 64 16", "80 70 64 16", "8 32 64 16", "80 60 64 16", "244 28 64 16", "245 28 64 16", "80 70 64 15", "80 70 64 12", "80 70 64 480", "80 7 64 16", "80 68 64 16", "-1 70 64 16", "32769 70 64 16")
	case "put":
		for range r.Intn(41) {
			o.Nums = append(o.Nums, int64(r.Intn(600)-40))
		}
		if len(o.Nums) > 0 {
			at := []int64{8700, 20000, 65536, 100000, 140000, 150000, 153000, 153590, 153599, 153600}
			if r.Intn(8) == 0 { // among what the volumes say of themselves
				at = []int64{4608, 8192, 41500, 44032, 47104}
			}
			o.Nums[0] = at[r.Intn(len(at))] + int64(r.Intn(2)*r.Intn(600))
		}
	case "get", "see":
		o = some(r, f.word, "0 153600", "0 512", "510 4", "153599 1", "153600 0", "153599 2", "40960 2048", "-1 1", "0 -1", "0 0", "65536 65536")
	case "resize":
		o.Nums = []int64{[]int64{64, 60, 80, 120, 128, 130, 140, 150, 200, 220, 300, int64(r.Intn(300)), -1}[r.Intn(13)]}
	case "refuse", "stop":
		o.Nums = []int64{[]int64{0, 1, -5, api.MaxOps, 1 << 40, int64(1 + r.Intn(1<<(1+r.Intn(11))))}[r.Intn(6)]}
	case "crash":
		for range r.Intn(41) {
			o.Nums = append(o.Nums, int64(r.Intn(3)-1))
		}
	case "tree", "lost", "odd":
		o.Nums = []int64{[]int64{0, 0, 0, 1, 1, 1, 1, 2, 3, -1}[r.Intn(10)]}
	}
	if f.named && o.Word == f.word {
		o.Name = []string{"a", "a", "b-2", "c", "d_", "A", "name-of-17-bytes-"}[r.Intn(7)]
	}
	return o
}

// begun: orders that make a disk with volumes of both kinds.
var begun = []string{"make 9 153600 700", "mbr 131 80 140 12 8 64", "ext 80 70 64 16", "fat 8 64 1"}

// TestAgainstLayers: any orders, one behind the other: each answers what the layers' calls
// do; the file behind it is the same, with what waits, and what was asked of it.
func TestAgainstLayers(t *testing.T) {
	t.Parallel()
	right, errors := map[string]int{}, map[string]map[string]int{}
	for seed := range int64(100) {
		r := rand.New(rand.NewSource(seed))
		p, x := &console.Player{}, &twin{}
		if seed%8 > 0 {
			for _, l := range begun[:4-seed%4/3] {
				o, _, _ := console.Parse(l)
				if a, b := p.Do(o[0]), x.do(o[0]); a != b {
					t.Fatal(l, a, b)
				}
			}
		}
		for range 160 {
			o := anyOrder(r)
			given := slices.Clone(o.Nums)
			a, b := p.Do(o), x.do(o)
			if a != b {
				t.Fatalf("%s: %q, not %q", o.Show(), a, b)
			}
			if !slices.Equal(o.Nums, given) {
				t.Fatal(o.Word, "changes its numbers")
			}
			if (p.Tool() == nil) != (x.tool == nil) {
				t.Fatal(o.Show(), "has a tool, or hasn't")
			}
			if u := p.Tool(); u != nil && (u.Ops() != x.tool.Ops() || u.Waiting() != x.tool.Waiting() || u.Broken() != x.tool.Broken() || !bytes.Equal(u.Bytes(), x.tool.Bytes()) || !bytes.Equal(u.Crash(), x.tool.Crash())) {
				t.Fatal(o.Show(), "makes another file")
			}
			if errors[o.Word] == nil {
				errors[o.Word] = map[string]int{}
			}
			if strings.HasPrefix(a, "error") {
				errors[o.Word][a]++
				if r.Intn(2) == 0 { // not to be stuck where nothing is done
					for _, o := range []console.Order{{Word: "refuse", Nums: []int64{0}}, {Word: "recover"}} {
						if a, b := p.Do(o), x.do(o); a != b {
							t.Fatal(o.Word, a, b)
						}
					}
				}
			} else {
				right[o.Word]++
			}
		}
	}
	for _, f := range forms() {
		if right[f.word] < 8 {
			t.Error("too few:", f.word, right[f.word], errors[f.word])
		}
	}
	for word, want := range map[string]string{
		"make": "11 20", "mbr": "6 20", "gpt": "4 5 6 11", "fat": "4 5 6 11", "ext": "4 5 6 11 18", "put": "4 5 6", "crash": "6", "get": "4 5 6", "see": "4 5 6 22",
		"snap": "5 6 16 17", "drop": "5 6 22", "back": "5 6 22", "differ": "5 6 22", "resize": "4 5 6 18", "tree": "5 6 10 22", "lost": "5 6 10 22", "odd": "5 6 22",
		"dry": "5 6", "trim": "5 6", "squeeze": "5 6", "mend": "5 6 10", "compact": "5 6", "list": "5 6", "parts": "5 6 10", "check": "6", "length": "6", "refuse": "6", "stop": "6", "recover": "4 5",
	} {
		for _, e := range strings.Fields(want) {
			if errors[word]["error "+e] == 0 {
				t.Error(word, "never answers error", e, errors[word])
			}
		}
	}
}
