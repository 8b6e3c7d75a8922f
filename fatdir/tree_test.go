package fatdir_test

import (
	"bytes"
	"math/rand"
	"slices"
	"strconv"
	"strings"
	"testing"

	"fettle/api"
	"fettle/extent"
	"fettle/fat"
	"fettle/fatdir"
)

// told is what is told of a partition.
type told struct {
	paths []api.Path
	free  extent.Set
	lost  []int64
	e     api.Errno
}

// item is what is still to be met: what a row names, in a folder so deep.
type item struct {
	name  string
	row   fatdir.Row
	depth int
}

// treeByWords: what Tree and Lost must answer: a list of what is still to be met, with
// what is in a folder put at its beginning.
func treeByWords(d []byte) told {
	v, e := fat.Open(bare(d))
	if e != api.OK {
		return told{e: e}
	}
	w := world{Boot: v.Boot, d: d, next: v.Next}
	var out told
	owner := map[int64]int{}
	todo := []item{{row: fatdir.Row{Folder: true, First: v.Root}}}
	for ; len(todo) > 0; todo = todo[1:] {
		x := todo[0]
		if len(out.paths) == 4096 {
			return told{e: api.ErrBig}
		}
		if x.row.Folder && x.depth > 16 {
			return told{e: api.ErrDepth}
		}
		chain, e := w.meet(x.row, owner, len(out.paths))
		if e != api.OK {
			return told{e: e}
		}
		p := api.Path{Name: x.name, Kind: api.File, Size: x.row.Size}
		if x.row.Folder {
			p.Kind, p.Size = api.Folder, int64(len(chain))*w.unit()
		} else if lack := p.Size - int64(len(chain))*w.unit(); lack > 0 || lack <= -w.unit() {
			return told{e: api.ErrCount}
		}
		p.Runs = w.runs(chain, p.Size)
		out.paths = append(out.paths, p)
		if !x.row.Folder {
			continue
		}
		var b []byte
		for _, c := range chain {
			b = append(b, d[w.at(c):w.at(c)+w.unit()]...)
		}
		list, e := rowsByWords(b)
		if e != api.OK {
			return told{e: e}
		}
		within := []item{x}
		for _, r := range list {
			within = append(within, item{x.name + "/" + r.Name, r, x.depth + 1})
		}
		todo = append(within, todo[1:]...)
	}
	for i, next := range v.Next {
		c := int64(i) + 2
		_, had := owner[c]
		switch {
		case next == 0:
			out.free = append(out.free, api.Ext{From: w.at(c), To: w.at(c) + w.unit()})
			if n := len(out.free); n > 1 && out.free[n-2].To == out.free[n-1].From {
				out.free[n-2].To = out.free[n-1].To
				out.free = out.free[:n-1]
			}
		case next != 0x0FFFFFF7 && !had:
			out.lost = append(out.lost, c)
		}
	}
	return out
}

// meet: the clusters of what a row names; from now on they have an owner.
func (w *world) meet(r fatdir.Row, owner map[int64]int, me int) (chain []int64, e api.Errno) {
	if !r.Folder && r.Size == 0 {
		if r.First != 0 {
			return nil, api.ErrCount
		}
		return nil, api.OK
	}
	for c := r.First; len(chain) == 0 || c < 0x0FFFFFF8; c = int64(w.next[c-2]) {
		if c < 2 || c-2 >= int64(len(w.next)) {
			return nil, api.ErrRange
		}
		if who, has := owner[c]; has && who == me {
			return nil, api.ErrLoop
		} else if has {
			return nil, api.ErrCross
		}
		if w.next[c-2] == 0 || w.next[c-2] == 0x0FFFFFF7 {
			return nil, api.ErrForm
		}
		owner[c] = me
		chain = append(chain, c)
	}
	return chain, api.OK
}

// runs: where so many bytes of clusters stand.
func (w *world) runs(chain []int64, size int64) (l []api.Ext) {
	for i, c := range chain {
		x := api.Ext{From: w.at(c), To: w.at(c) + min(w.unit(), size-int64(i)*w.unit())}
		if i > 0 && l[len(l)-1].To == x.From {
			l[len(l)-1].To = x.To
			continue
		}
		l = append(l, x)
	}
	return l
}

func samePaths(a, b []api.Path) bool {
	return slices.EqualFunc(a, b, func(x, y api.Path) bool {
		return x.Name == y.Name && x.Kind == y.Kind && x.Size == y.Size && slices.Equal(x.Runs, y.Runs)
	})
}

// tree: what Tree and Lost answer, held against the plain answer; the disk stays as
// it is; with an error there is nothing else.
func tree(t *testing.T, what string, d []byte) told {
	t.Helper()
	ahead := bytes.Clone(d)
	want := treeByWords(d)
	paths, free, e := fatdir.Tree(bare(d))
	lost, e2 := fatdir.Lost(bare(d))
	if e != want.e || e2 != want.e {
		t.Fatalf("%s: errors %d and %d, not %d", what, e, e2, want.e)
	}
	if !samePaths(paths, want.paths) || !slices.Equal(free, want.free) || !slices.Equal(lost, want.lost) {
		t.Fatalf("%s:\n%v %v %v, not\n%v %v %v", what, paths, free, lost, want.paths, want.free, want.lost)
	}
	if !bytes.Equal(d, ahead) {
		t.Fatalf("%s: what was handed in is changed", what)
	}
	apart(t, what, d, paths, free)
	return told{paths, free, lost, e}
}

// apart: no two paths have a byte in common, none one that is free, or ahead of the
// clusters; and each has as many as its size says.
func apart(t *testing.T, what string, d []byte, paths []api.Path, free extent.Set) {
	t.Helper()
	all := slices.Clone([]api.Ext(free))
	for _, p := range paths {
		n := int64(0)
		for _, x := range p.Runs {
			if x.From >= x.To || x.From < 512*3 || x.To > int64(len(d)) {
				t.Fatalf("%s: a run is nowhere: %v", what, p)
			}
			n += x.To - x.From
		}
		if n != p.Size {
			t.Fatalf("%s: the runs aren't of its size: %v", what, p)
		}
		all = append(all, p.Runs...)
	}
	if !extent.Apart(all...) {
		t.Fatalf("%s: two have a byte in common: %v %v", what, paths, free)
	}
}

// fails: Tree and Lost answer an error, and so does the plain answer.
func fails(t *testing.T, what string, d []byte, want api.Errno) {
	t.Helper()
	if got := tree(t, what, d); got.e != want {
		t.Errorf("%s: error %d, not %d", what, got.e, want)
	}
}

// content: a path's bytes.
func content(d []byte, p api.Path) (b []byte) {
	for _, x := range p.Runs {
		b = append(b, d[x.From:x.To]...)
	}
	return b
}

func TestMade(t *testing.T) {
	for _, sectors := range []int64{16, 17, 64, 65, 4096, 32768} {
		for _, each := range []int64{1, 2, 4, 8} {
			d, e := fat.Make(sectors, each)
			if e != api.OK {
				continue
			}
			got := tree(t, "a volume that was made", d)
			v, _ := fat.Open(bare(d))
			if got.e != api.OK || len(got.paths) != 1 || len(got.lost) != 0 || got.free.Bytes() != (v.Clusters()-1)*v.Unit() {
				t.Error(sectors, each, got.e, got.paths, got.lost)
			}
			if p := got.paths[0]; p.Name != "" || p.Kind != api.Folder || p.Size != 512*each || !slices.Equal(p.Runs, []api.Ext{v.At(2)}) {
				t.Error(sectors, each, p)
			}
		}
	}
}

// TestByHand: a volume, and what is told of it, written out.
func TestByHand(t *testing.T) {
	d, e := fat.Make(64, 1)
	ok(t, e)
	at := func(c int64) int64 { return 6*512 + (c-2)*512 }
	for _, table := range []int{4 * 512, 5 * 512} {
		for c, next := range map[int]int64{2: 9, 9: fat.End, 3: 4, 4: 7, 7: 0x0FFFFFFF, 5: fat.End + 1, 6: fat.End, 10: fat.Bad, 12: 13, 13: fat.End, 20: 1} {
			put32(d, table+4*c, next)
		}
	}
	put32(d, 512+488, 58-11)
	first := slices.Concat(
		row("VOL        ", label, 0, 0),
		row("A       TXT", plain, 3, 1025),
		named("a folder.x", "AFOLD~1 X  ", folder, 5, 0),
		row("\xE5ONE    TXT", plain, 3, 77),
		row("EMPTY      ", plain, 0, 0))
	for len(first) < 512 {
		first = append(first, row("\xE5          ", plain, 3, 3)...)
	}
	copy(d[at(2):], first)
	copy(d[at(9):], row("LAST       ", plain, 6, 512))
	copy(d[at(5):], slices.Concat(row(".          ", folder, 5, 0), row("..         ", folder, 0, 0), row("B          ", folder|plain, 12, 99)))
	got := tree(t, "by hand", d)
	ok(t, got.e)
	want := []api.Path{
		{Name: "", Kind: api.Folder, Size: 1024, Runs: []api.Ext{{From: at(2), To: at(3)}, {From: at(9), To: at(10)}}},
		{Name: "/A.TXT", Kind: api.File, Size: 1025, Runs: []api.Ext{{From: at(3), To: at(5)}, {From: at(7), To: at(7) + 1}}},
		{Name: "/a folder.x", Kind: api.Folder, Size: 512, Runs: []api.Ext{{From: at(5), To: at(6)}}},
		{Name: "/a folder.x/B", Kind: api.Folder, Size: 1024, Runs: []api.Ext{{From: at(12), To: at(14)}}},
		{Name: "/EMPTY", Kind: api.File},
		{Name: "/LAST", Kind: api.File, Size: 512, Runs: []api.Ext{{From: at(6), To: at(7)}}},
	}
	if !samePaths(got.paths, want) {
		t.Errorf("%v\nnot\n%v", got.paths, want)
	}
	if !slices.Equal(got.free, extent.Set{{From: at(8), To: at(9)}, {From: at(11), To: at(12)}, {From: at(14), To: at(20)}, {From: at(21), To: at(60)}}) {
		t.Error(got.free)
	}
	if !slices.Equal(got.lost, []int64{20}) {
		t.Error(got.lost)
	}
}

// grown is a tree that is made by hand: its paths in order, and what each holds.
type grown struct {
	*world
	r     *rand.Rand
	names []string
	kinds []int
	bytes [][]byte
	count int
}

// rowFor: a row for a first cluster, with a name that nothing else has; and its name.
func (g *grown) rowFor(attributes byte, first, size int64) ([]byte, string) {
	g.count++
	n := strconv.Itoa(g.count)
	short := (n + "          ")[:8] + "TXT"
	if g.r.Intn(2) == 0 {
		return row(short, attributes, first, size), n + ".TXT"
	}
	name := "long " + n + strings.Repeat("é\U0001F600", g.r.Intn(12))
	return named(name, short, attributes, first, size), name
}

// grow: a folder with what is in it; its first cluster. Clusters are taken in any
// order; the paths are noted in theirs.
func (g *grown) grow(name string, depth int) int64 {
	me := len(g.names)
	g.names, g.kinds, g.bytes = append(g.names, name), append(g.kinds, api.Folder), append(g.bytes, nil)
	var b []byte
	if depth > 0 {
		b = slices.Concat(row(".          ", folder, 0, 0), row("..         ", folder, 0, 0))
	}
	for range g.r.Intn(7) {
		switch g.r.Intn(5) {
		case 0:
			b = append(b, row("\xE5          ", byte(g.r.Intn(256)), 99, 98)...)
		case 1, 2:
			if depth == 5 {
				continue
			}
			// the name must be known ahead of what is in it: its row gets its first cluster later
			x, n := g.rowFor(folder, 0, g.r.Int63n(1000))
			first := g.grow(name+"/"+n, depth+1)
			put16(x[len(x)-32:], 20, first>>16)
			put16(x[len(x)-32:], 26, first)
			b = append(b, x...)
		default:
			data := pattern(g.r.Intn(3)*g.r.Intn(1300), g.r.Int63())
			first := int64(0)
			if len(data) > 0 {
				first = g.fill(data)
			}
			x, n := g.rowFor(plain, first, int64(len(data)))
			b = append(b, x...)
			g.names, g.kinds, g.bytes = append(g.names, name+"/"+n), append(g.kinds, api.File), append(g.bytes, data)
		}
	}
	for g.r.Intn(4) == 0 {
		b = append(b, row("\xE5          ", plain, 0, 0)...)
	}
	g.bytes[me] = b
	if depth == 0 {
		g.root(b)
		return g.Root
	}
	return g.fill(b)
}

// anyGrown: a tree on a volume of 600 clusters; some of them bad, or nobody's.
func anyGrown(seed int64) *grown {
	r := rand.New(rand.NewSource(seed))
	g := &grown{world: newWorld(1<<(seed%4), 600, seed+1), r: r}
	g.grow("", 0)
	for range r.Intn(10) {
		g.next[g.take(1)[0]-2] = []uint32{fat.Bad, 1, 5, fat.End, fat.Bad - 1}[r.Intn(5)]
	}
	return g
}

// TestTrees: any trees: each path, in order, with its bytes where they stand.
func TestTrees(t *testing.T) {
	deep, many := 0, 0
	for seed := range int64(150) {
		g := anyGrown(seed)
		d := g.disk()
		got := tree(t, "a tree", d)
		ok(t, got.e)
		if len(got.paths) != len(g.names) {
			t.Fatal(seed, len(got.paths), len(g.names))
		}
		for i, p := range got.paths {
			if p.Name != g.names[i] || p.Kind != g.kinds[i] {
				t.Fatal(seed, p, g.names[i])
			}
			b := content(d, p)
			if p.Kind == api.File && !bytes.Equal(b, g.bytes[i]) || !bytes.HasPrefix(b, g.bytes[i]) {
				t.Fatal(seed, p, "holds other bytes")
			}
			deep = max(deep, strings.Count(p.Name, "/"))
		}
		many = max(many, len(got.paths))
	}
	if deep < 5 || many < 30 {
		t.Error("the trees are small:", deep, many)
	}
}

// TestNewMemory: what is answered is nobody else's.
func TestNewMemory(t *testing.T) {
	d := anyGrown(3).disk()
	want := tree(t, "ahead", d)
	paths, free, _ := fatdir.Tree(bare(d))
	lost, _ := fatdir.Lost(bare(d))
	for i := range paths {
		runs := paths[i].Runs[:cap(paths[i].Runs)]
		for k := range runs {
			runs[k] = api.Ext{From: int64(i), To: int64(k)}
		}
	}
	for i, p := range paths {
		for k, x := range p.Runs {
			if x != (api.Ext{From: int64(i), To: int64(k)}) {
				t.Fatal("two lists share their memory")
			}
		}
	}
	clear(paths)
	clear(free)
	clear(lost)
	if again := tree(t, "again", d); !samePaths(again.paths, want.paths) || !slices.Equal(again.free, want.free) || !slices.Equal(again.lost, want.lost) {
		t.Error("another answer")
	}
	paths, free, _ = fatdir.Tree(bare(d))
	clear(d)
	if !samePaths(paths, want.paths) || !slices.Equal(free, want.free) {
		t.Error("the answer hangs on the disk")
	}
}

// nested: a volume of folders in one another, so many below the root; the last one
// holds these rows. Its rows' names are told by their depth.
func nested(w *world, depth int, last ...[]byte) {
	inner := bytes.Join(last, nil)
	for n := depth; n > 0; n-- {
		first := w.fill(inner)
		inner = row((strconv.Itoa(n) + "          ")[:11], folder, first, 0)
	}
	w.root(inner)
}

func TestDepth(t *testing.T) {
	for depth := range 20 {
		w := newWorld(2, 60, int64(depth))
		nested(w, depth, row("X          ", plain, 0, 0))
		got := tree(t, "folders in one another", w.disk())
		if depth > 16 {
			if got.e != api.ErrDepth {
				t.Errorf("%d deep: error %d", depth, got.e)
			}
			continue
		}
		if got.e != api.OK || len(got.paths) != depth+2 {
			t.Fatalf("%d deep: error %d, %v", depth, got.e, got.paths)
		}
		name := ""
		for n, p := range got.paths[:depth+1] {
			if n > 0 {
				name += "/" + strconv.Itoa(n)
			}
			if p.Name != name || p.Kind != api.Folder {
				t.Error(depth, p, name)
			}
		}
		if p := got.paths[depth+1]; p.Name != name+"/X" || p.Kind != api.File {
			t.Error(depth, p)
		}
	}
}

// TestSides: many folders that aren't in one another are not deep.
func TestSides(t *testing.T) {
	w := newWorld(1, 120, 5)
	var all []byte
	for n := range 20 {
		inner := w.fill(row("X          ", plain, 0, 0))
		first := w.fill(row("IN         ", folder, inner, 0))
		all = append(all, row((strconv.Itoa(n) + "          ")[:11], folder, first, 0)...)
	}
	w.root(all)
	if got := tree(t, "side by side", w.disk()); got.e != api.OK || len(got.paths) != 61 {
		t.Error(got.e, len(got.paths))
	}
}

// TestSizes: a file has just as many clusters as hold its size.
func TestSizes(t *testing.T) {
	for _, each := range []int64{1, 2, 4, 8} {
		for n := int64(1); n < 5; n++ {
			unit := 512 * each
			for _, size := range []int64{1, (n-1)*unit - 1, (n - 1) * unit, (n-1)*unit + 1, n*unit - 1, n * unit, n*unit + 1, (n + 1) * unit, 1<<32 - 1, 1<<32 - unit, 1 << 31, 1<<32 - unit + 1} {
				if size < 1 {
					continue
				}
				w := newWorld(each, 20, n)
				w.root(row("A          ", plain, w.take(n)[0], size))
				got := tree(t, "a size", w.disk())
				if right := size > (n-1)*unit && size <= n*unit; right != (got.e == api.OK) || !right && got.e != api.ErrCount {
					t.Errorf("%d clusters of %d, size %d: error %d", n, unit, size, got.e)
				}
			}
		}
	}
}

func TestNoBytes(t *testing.T) {
	for _, first := range []int64{1, 2, 3, 5, 21, 22, 0xFFFF, 0x10000, 0x0FFFFFF8, 0xFFFFFFFF} {
		w := newWorld(1, 20, 0)
		w.take(3)
		w.root(row("A          ", plain, first, 0))
		fails(t, "no bytes, and a cluster", w.disk(), api.ErrCount)
	}
	w := newWorld(1, 20, 0)
	w.root(row("A          ", plain, 0, 0), row("A          ", plain, 0, 0))
	if got := tree(t, "no bytes", w.disk()); got.e != api.OK || len(got.paths) != 3 || got.paths[1].Size != 0 || len(got.paths[2].Runs) != 0 {
		t.Error(got)
	}
	w.root(row("A          ", plain, 0, 1))
	fails(t, "a byte, and no cluster", w.disk(), api.ErrRange)
	w.root(row("A          ", folder, 0, 0))
	fails(t, "a folder, and no cluster", w.disk(), api.ErrRange)
}

// TestFolders: a folder's size is that of its clusters, whatever its row says; its
// rows may fill it, and go on from cluster to cluster.
func TestFolders(t *testing.T) {
	for _, said := range []int64{0, 1, 512, 513, 1 << 20, 1<<32 - 1} {
		w := newWorld(1, 20, 9)
		chain := w.take(3)
		for i, c := range chain {
			for k := range 16 {
				copy(w.d[w.at(c)+int64(32*k):], row(string(rune('A'+i))+string(rune('A'+k))+"         ", plain, 0, 0))
			}
		}
		w.root(row("F          ", folder, chain[0], said))
		got := tree(t, "a folder that is full", w.disk())
		if got.e != api.OK || len(got.paths) != 2+48 || got.paths[1].Size != 3*512 {
			t.Fatal(got.e, got.paths)
		}
		for i, p := range got.paths[2:] {
			if p.Name != "/F/"+string(rune('A'+i/16))+string(rune('A'+i%16)) {
				t.Error(i, p)
			}
		}
	}
	w := newWorld(1, 20, 9)
	b := slices.Repeat(row("\xE5          ", plain, 0, 0), 14)
	w.root(row("F          ", folder, w.fill(b, named(strings.Repeat("x", 50), "X          ", plain, 0, 0)), 0))
	if got := tree(t, "a long name in two clusters", w.disk()); got.e != api.OK || len(got.paths) != 3 || got.paths[2].Name != "/F/"+strings.Repeat("x", 50) {
		t.Error(got)
	}
	w = newWorld(1, 20, 9)
	chain := w.take(2)
	w.put(chain[0], row("X          ", plain, 0, 0))
	copy(w.d[w.at(chain[1]):], row("           ", plain, 9, 9))
	w.root(row("F          ", folder, chain[0], 0))
	if got := tree(t, "an end ahead of a cluster", w.disk()); got.e != api.OK || len(got.paths) != 3 || got.paths[1].Size != 1024 {
		t.Error(got)
	}
}

// TestChains: what is wrong in a chain, of a file, a folder, and the root.
func TestChains(t *testing.T) {
	for what, c := range map[string]struct {
		next []uint32 // of the chain's three clusters, 10, 11, 12
		want api.Errno
	}{
		"right":                  {[]uint32{11, 12, fat.End}, api.OK},
		"the last mark":          {[]uint32{11, 12, 0x0FFFFFFF}, api.OK},
		"a loop to itself":       {[]uint32{11, 12, 12}, api.ErrLoop},
		"a loop to the first":    {[]uint32{11, 12, 10}, api.ErrLoop},
		"a loop of the first":    {[]uint32{10, 12, fat.End}, api.ErrLoop},
		"a place behind all":     {[]uint32{11, 12, 42}, api.ErrRange},
		"a place far behind all": {[]uint32{11, 12, fat.Bad - 1}, api.ErrRange},
		"a place ahead of all":   {[]uint32{11, 12, 1}, api.ErrRange},
		"a free one":             {[]uint32{11, 12, 0}, api.ErrForm},
		"a free one first":       {[]uint32{0, 12, 0}, api.ErrForm},
		"it leads to a free one": {[]uint32{11, 12, 30}, api.ErrForm},
		"a bad one":              {[]uint32{11, fat.Bad, fat.End}, api.ErrForm},
		"it leads to a bad one":  {[]uint32{11, 12, 13}, api.ErrForm},
		"another one's":          {[]uint32{11, 12, 14}, api.ErrCross},
		"the end of another":     {[]uint32{11, 12, 15}, api.ErrCross},
	} {
		make := func() *world {
			w := newWorld(1, 40, 0)
			copy(w.next[8:], c.next)
			w.next[13-2] = fat.Bad
			w.link(14, 15)
			clear(w.d[w.at(10):w.at(14)])
			return w
		}
		w := make()
		w.root(row("OTHER      ", plain, 14, 1024), row("A          ", plain, 10, 3*512))
		fails(t, what+", a file", w.disk(), c.want)
		w.root(row("OTHER      ", plain, 14, 1024), row("A          ", folder, 10, 0))
		fails(t, what+", a folder", w.disk(), c.want)
		if c.want != api.ErrCross {
			w.Root = 10
			fails(t, what+", the root", w.disk(), c.want)
		}
	}
}

// TestTwice: clusters that two paths have.
func TestTwice(t *testing.T) {
	w := newWorld(1, 40, 0)
	chain := w.take(2)
	w.root(row("A          ", plain, chain[0], 1024), row("B          ", plain, chain[0], 1024))
	fails(t, "two files", w.disk(), api.ErrCross)
	w.root(row("A          ", plain, chain[1], 512), row("B          ", plain, chain[0], 1024))
	fails(t, "two files, the second half", w.disk(), api.ErrCross)
	clear(w.d[w.at(chain[0]):w.at(chain[1]+1)])
	w.root(row("A          ", folder, chain[0], 0), row("B          ", folder, chain[0], 0))
	fails(t, "two folders", w.disk(), api.ErrCross)
	w.root(row("A          ", plain, chain[0], 1024), row("B          ", folder, chain[0], 0))
	fails(t, "a file and a folder", w.disk(), api.ErrCross)
	w.root(row("A          ", folder, w.Root, 0))
	fails(t, "the root in itself", w.disk(), api.ErrCross)
	w.root(row("A          ", plain, w.Root, 512))
	fails(t, "the root, a file in itself", w.disk(), api.ErrCross)
	w.put(chain[0], row("B          ", folder, chain[0], 0))
	w.root(row("A          ", folder, chain[0], 0))
	fails(t, "a folder in itself", w.disk(), api.ErrCross)
	w.put(chain[0], row("B          ", folder, w.Root, 0))
	fails(t, "the root in a folder", w.disk(), api.ErrCross)
	w.put(chain[0], row("B          ", folder, chain[1], 0))
	fails(t, "a folder in its own end", w.disk(), api.ErrCross)
	w.put(chain[0], named("..", "B          ", folder, w.Root, 0))
	if got := tree(t, "the root in a folder, aside", w.disk()); got.e != api.OK {
		t.Error(got.e)
	}
}

// TestPaths: as many paths as may be, and one more.
func TestPaths(t *testing.T) {
	x := row("X          ", plain, 0, 0)
	for n, want := range map[int]api.Errno{4094: api.OK, 4095: api.OK, 4096: api.ErrBig, 4097: api.ErrBig} {
		w := newWorld(8, 60, 1)
		w.root(slices.Repeat(x, n))
		got := tree(t, "paths", w.disk())
		if got.e != want || want == api.OK && len(got.paths) != n+1 {
			t.Errorf("%d rows: error %d, %d paths", n, got.e, len(got.paths))
		}
	}
	full := slices.Repeat(x, 4095)
	for what, c := range map[string]struct {
		behind []byte
		want   api.Errno
	}{
		"a folder":            {row("F          ", folder, 3, 0), api.ErrBig},
		"a folder of nothing": {row("F          ", folder, 0, 0), api.ErrBig},
		"a file of nothing":   {row("F          ", plain, 0, 1), api.ErrBig},
		"a file of a cluster": {row("F          ", plain, 3, 0), api.ErrBig},
		"none":                {row("\xE5          ", plain, 3, 0), api.OK},
		"a label":             {row("F          ", label, 3, 0), api.OK},
		"a dot":               {row(".          ", folder, 3, 0), api.OK},
		"an end, and more":    {slices.Concat(make([]byte, 32), x), api.OK},
		"a part":              {part(0x41, 5, 'x'), api.OK},
	} {
		w := newWorld(8, 60, 1)
		w.root(full, c.behind)
		fails(t, "behind all paths: "+what, w.disk(), c.want)
	}
	for n, want := range map[int]api.Errno{2000: api.OK, 2092: api.OK, 2093: api.ErrBig} {
		w := newWorld(8, 60, 1)
		inner := w.fill(slices.Repeat(x, 2000))
		w.root(x, row("F          ", folder, inner, 0), slices.Repeat(x, n), x)
		fails(t, "in two folders", w.disk(), want)
		w = newWorld(8, 60, 1)
		inner = w.fill(slices.Repeat(x, n))
		w.root(slices.Repeat(x, 2000), row("F          ", folder, inner, 0), x, x)
		fails(t, "in two folders, the second one more", w.disk(), want)
	}
}

// TestFirst: of two things that are wrong the one that is met first is told.
func TestFirst(t *testing.T) {
	empty := row("           ", plain, 0, 0)
	a := row("A          ", plain, 0, 0)
	count := row("C          ", plain, 3, 0)
	outside := row("O          ", plain, 99, 1)
	free := row("F          ", plain, 30, 1)
	build := func(rows ...[]byte) []byte {
		w := newWorld(1, 40, 0)
		w.root(rows...)
		return w.disk()
	}
	fails(t, "a count, then a place outside", build(a, count, outside), api.ErrCount)
	fails(t, "a place outside, then a count", build(a, outside, count), api.ErrRange)
	fails(t, "a free cluster, then a place outside", build(free, outside), api.ErrForm)
	fails(t, "a folder's names are read ahead of what they name", build(count, empty), api.ErrName)
	fails(t, "a chain ahead of its count", build(row("A          ", plain, 99, 1<<30)), api.ErrRange)
	within := func(inner []byte, behind ...[]byte) []byte {
		w := newWorld(1, 40, 0)
		first := w.fill(inner)
		w.root(row("F          ", folder, first, 0), bytes.Join(behind, nil))
		return w.disk()
	}
	fails(t, "what is in a folder, then what is behind it", within(count, outside), api.ErrCount)
	fails(t, "a name in a folder, then what is behind it", within(empty, outside), api.ErrName)
	fails(t, "a name behind a folder, then what is in it", within(count, empty), api.ErrName)
	fails(t, "nothing in a folder, then what is behind it", within(nil, outside), api.ErrRange)
	for what, c := range map[string]struct {
		last []byte
		want api.Errno
	}{
		"too deep, and no cluster":     {row("D          ", folder, 0, 0), api.ErrDepth},
		"too deep, and another's":      {row("D          ", folder, 2, 0), api.ErrDepth},
		"a file may be there":          {row("D          ", plain, 0, 0), api.OK},
		"a file ahead of one too deep": {slices.Concat(count, row("D          ", folder, 0, 0)), api.ErrCount},
		"one too deep ahead of a file": {slices.Concat(row("D          ", folder, 0, 0), count), api.ErrDepth},
	} {
		w := newWorld(1, 40, 0)
		nested(w, 16, c.last)
		fails(t, what, w.disk(), c.want)
	}
	w := newWorld(8, 60, 1)
	nested(w, 16, slices.Repeat(a, 4079), row("D          ", folder, 0, 0))
	fails(t, "too many, and too deep", w.disk(), api.ErrBig)
	w = newWorld(8, 60, 1)
	nested(w, 16, slices.Repeat(a, 4078), row("D          ", folder, 0, 0))
	fails(t, "not too many, but too deep", w.disk(), api.ErrDepth)
}

// TestOpen: a partition that is no volume: the error of the layer below.
func TestOpen(t *testing.T) {
	for _, d := range [][]byte{nil, make([]byte, 511), make([]byte, 512), pattern(9000, 1)} {
		if _, e := fat.Open(bare(d)); e == api.OK {
			t.Fatal("it is one")
		}
		tree(t, "no volume", d)
	}
	w := newWorld(1, 40, 0)
	w.root(row("A          ", plain, 99, 5))
	d := w.disk()
	put32(d, 512+488, 7)
	fails(t, "a count of free clusters, ahead of all paths", d, api.ErrCount)
	put32(d, 512+488, fat.Unknown)
	fails(t, "no count of free clusters", d, api.ErrRange)
	fails(t, "a partition that is cut", d[:512*w.Sectors-1], api.ErrRange)
}

func TestNoDisk(t *testing.T) {
	if paths, free, e := fatdir.Tree(nil); e != api.ErrNil || len(paths) != 0 || len(free) != 0 {
		t.Error(paths, free, e)
	}
	if lost, e := fatdir.Lost(nil); e != api.ErrNil || len(lost) != 0 {
		t.Error(lost, e)
	}
}

// TestRefused: each read may be refused, or answer too few bytes, or too many.
func TestRefused(t *testing.T) {
	d := anyGrown(1).disk()
	count := &odd{bare: d, answer: func(int, int64, int64) ([]byte, api.Errno, bool) { return nil, 0, false }}
	if _, _, e := fatdir.Tree(count); e != api.OK || count.reads < 12 {
		t.Fatal(e, count.reads)
	}
	both := func(n int, want api.Errno, answer func(at, n int64) ([]byte, api.Errno)) {
		t.Helper()
		disk := func() *odd {
			return &odd{bare: d, answer: func(read int, at, size int64) ([]byte, api.Errno, bool) {
				b, e := answer(at, size)
				return b, e, read == n
			}}
		}
		if paths, free, e := fatdir.Tree(disk()); e != want || len(paths) != 0 || len(free) != 0 {
			t.Errorf("read %d: %v %v, error %d, not %d", n, paths, free, e, want)
		}
		if lost, e := fatdir.Lost(disk()); e != want || len(lost) != 0 {
			t.Errorf("read %d: %v, error %d, not %d", n, lost, e, want)
		}
	}
	for n := 1; n <= count.reads; n++ {
		for _, e := range []api.Errno{api.ErrIO, api.ErrRange, api.ErrState} {
			both(n, e, func(at, size int64) ([]byte, api.Errno) { return d[at : at+size], e })
		}
		both(n, api.ErrRange, func(at, size int64) ([]byte, api.Errno) { return d[at : at+size-1], api.OK })
		both(n, api.ErrRange, func(at, size int64) ([]byte, api.Errno) { return append(bytes.Clone(d[at:at+size]), 0), api.OK })
		both(n, api.ErrRange, func(at, size int64) ([]byte, api.Errno) { return nil, api.OK })
	}
}

func TestLost(t *testing.T) {
	w := newWorld(1, 40, 0)
	for c, next := range map[int64]uint32{10: fat.End, 12: 13, 13: 0x0FFFFFFF, 15: fat.Bad, 17: 17, 18: 1, 19: fat.Bad - 1, 20: 2, 41: 5} {
		w.next[c-2] = next
	}
	w.link(21, 22, 4)
	w.root(row("A          ", plain, 21, 1500), row("\xE5          ", plain, 12, 1024), row("V          ", label, 10, 0), row(".          ", folder, 17, 0))
	got := tree(t, "clusters that no path has", w.disk())
	ok(t, got.e)
	if !slices.Equal(got.lost, []int64{10, 12, 13, 17, 18, 19, 20, 41}) {
		t.Error(got.lost)
	}
	w.root(row("A          ", plain, 21, 1024))
	fails(t, "Tree's error", w.disk(), api.ErrCount)
}

// TestAnyChange: trees in which anything is changed: a number of the table, a bit of
// what is in a folder.
func TestAnyChange(t *testing.T) {
	met := map[api.Errno]int{}
	for seed := range int64(40) {
		g := anyGrown(4*seed + seed%2) // small clusters
		whole := g.disk()
		var folders []int64
		for _, p := range tree(t, "ahead", whole).paths {
			for _, x := range p.Runs {
				for at := x.From; p.Kind == api.Folder && at < x.To; at += 32 {
					if whole[at] == 0 {
						break
					}
					folders = append(folders, at)
				}
			}
		}
		if len(folders) == 0 {
			continue
		}
		next := slices.Clone(g.next)
		before := bytes.Clone(g.d)
		for range 60 {
			copy(g.next, next)
			copy(g.d, before)
			for range 1 + g.r.Intn(3) {
				at := folders[g.r.Intn(len(folders))]
				used := g.r.Intn(len(next))
				for range 20 {
					if next[used] == 0 {
						used = g.r.Intn(len(next))
					}
				}
				switch g.r.Intn(6) {
				case 0:
					g.next[used] = []uint32{0, 1, fat.Bad, fat.End, uint32(2 + g.r.Intn(602)), next[g.r.Intn(len(next))], uint32(used) + 2}[g.r.Intn(7)]
				case 1:
					g.d[at+11] ^= 1 << g.r.Intn(8)
				case 2:
					put16(g.d, int(at)+26, []int64{0, 1, 2, g.Root, int64(used) + 2, 602}[g.r.Intn(6)])
				case 3:
					put32(g.d, int(at)+28, []int64{0, 1, 512, 1 << 20, g.unit(), g.unit() + 1}[g.r.Intn(6)])
				case 4:
					copy(g.d[at:], []string{"\x00", "\xE5", "           ", ".          ", "\x05"}[g.r.Intn(5)])
				default:
					g.d[at+int64(g.r.Intn(32))] ^= 1 << g.r.Intn(8)
				}
			}
			met[tree(t, "a change", g.disk()).e]++
		}
	}
	for e, least := range map[api.Errno]int{api.OK: 200, api.ErrCount: 100, api.ErrRange: 50, api.ErrForm: 50, api.ErrCross: 20, api.ErrName: 10, api.ErrLoop: 5} {
		if met[e] < least {
			t.Error("too few of error", e, met)
		}
	}
}

// TestEachByteOfAVolume: a small volume, with each byte of its own sectors and of its
// folders changed.
func TestEachByteOfAVolume(t *testing.T) {
	w := newWorld(1, 12, 4)
	file := w.fill(pattern(700, 2))
	inner := w.fill(row("X          ", plain, w.fill([]byte("x")), 1), named("long name in it", "LONG       ", plain, 0, 0))
	w.root(row("F          ", folder, inner, 0), row("A          ", plain, file, 700))
	d := w.disk()
	whole := tree(t, "ahead", d)
	ok(t, whole.e)
	data := map[int64]int{}
	for _, p := range whole.paths {
		for _, x := range p.Runs {
			for at := x.From; p.Kind == api.File && at < x.To; at++ {
				data[at] = 1
			}
		}
	}
	for at := range d {
		for _, by := range []byte{1, 0x10, 0x80, 0xFF} {
			d[at] ^= by
			got := tree(t, "a byte", d)
			if data[int64(at)] > 0 && (got.e != api.OK || !samePaths(got.paths, whole.paths)) {
				t.Fatal("a file's byte at", at, got)
			}
			d[at] ^= by
		}
	}
}

// TestAnyBytes: any bytes where a volume's clusters are, and any numbers in its table.
func TestAnyBytes(t *testing.T) {
	met := map[api.Errno]int{}
	r := rand.New(rand.NewSource(8))
	for seed := range int64(3000) {
		w := newWorld(1<<r.Intn(2), 4+r.Int63n(30), seed)
		copy(w.d[512*(w.Ahead+w.Tables*w.Long):], pattern(int(clusters(w.Boot)*w.unit()), seed))
		for i := range w.next {
			w.next[i] = []uint32{0, fat.End, fat.End, uint32(2 + r.Intn(len(w.next))), uint32(r.Intn(40)), fat.Bad}[r.Intn(6)]
		}
		w.next[w.Root-2] = fat.End
		// any bytes as rows, with first clusters and sizes that may be
		for at := w.at(w.Root); at < w.at(w.Root)+w.unit(); at += 32 {
			b := w.d[at : at+32]
			b[11] &= 0x33
			put16(b, 20, 0)
			put16(b, 26, int64(r.Intn(len(w.next)+3)))
			put32(b, 28, int64(r.Intn(1100)))
			if r.Intn(4) == 0 {
				put16(b, 26, 0)
				put32(b, 28, 0)
				b[11] = plain
			}
			if r.Intn(3) == 0 {
				b[0] = 0
			}
		}
		met[tree(t, "any bytes", w.disk()).e]++
	}
	if met[api.OK] < 300 || len(met) < 6 {
		t.Error("too few of a kind:", met)
	}
}
