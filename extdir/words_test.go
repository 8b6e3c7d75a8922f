package extdir_test

import (
	"bytes"
	"slices"
	"testing"

	"fettle/api"
	"fettle/ext"
	"fettle/extdir"
	"fettle/extent"
)

// told is what is told of a partition.
type told struct {
	paths []api.Path
	free  extent.Set
	lost  []int64
	odd   []extdir.Links
	e     api.Errno
}

// plain goes through a volume by the chapter's words.
type plain struct {
	told
	v     *ext.Volume
	d     []byte
	fixed map[int64]int
	owner map[int64]int64
	runs  map[int64][]api.Ext // of inodes that were met, cut to their size
	named map[int64]int64
	room  []int64 // for an inode's blocks, which are many noughts mostly
}

// thing is what is still to be met: what a row names, in a folder so deep; or a
// folder's blocks that are still to be read.
type thing struct {
	name   string
	node   int64
	depth  int
	blocks []int64
}

// treeByWords: what Tree, Lost and Odd must answer: a list of what is still to be met,
// with what is in a folder's next block put at its beginning.
func treeByWords(d []byte) told {
	v, e := ext.Open(bare(d))
	if e != api.OK {
		return told{e: e}
	}
	p := plain{v: v, d: d, fixed: map[int64]int{}, owner: map[int64]int64{}, runs: map[int64][]api.Ext{}, named: map[int64]int64{}}
	for g := range v.Groups() {
		for _, n := range v.Fixed(g) {
			p.fixed[n] = 1
		}
	}
	if x, e := v.Node(2); e != api.OK {
		return told{e: e}
	} else if x.Mode/4096 != 4 {
		return told{e: api.ErrForm}
	}
	for todo := []thing{{node: 2}}; len(todo) > 0; {
		more, e := p.next(todo[0])
		if e != api.OK {
			return told{e: e}
		}
		todo = append(more, todo[1:]...)
	}
	p.rest()
	return p.told
}

// next: a thing is met, and what must be met right behind it is answered.
func (p *plain) next(x thing) ([]thing, api.Errno) {
	if len(x.blocks) > 0 {
		return p.block(x)
	}
	if len(p.paths) == 4096 {
		return nil, api.ErrBig
	}
	n, e := p.v.Node(x.node)
	if e != api.OK {
		return nil, e
	}
	path := api.Path{Name: x.name, Kind: api.File, Size: n.Size}
	runs, met := p.runs[x.node]
	switch kind := n.Mode / 4096; {
	case kind == 4 && x.depth > 16:
		return nil, api.ErrDepth
	case kind == 4 && met:
		return nil, api.ErrLoop
	case kind == 4 && (n.Size == 0 || n.Size%1024 != 0 || n.Size > 16777216):
		return nil, api.ErrCount
	case kind == 10 && n.Count == 0 && n.Size <= 59:
		path.Size = 0
		p.paths = append(p.paths, path)
		return nil, api.OK
	case kind != 4 && kind != 8 && kind != 10:
		return nil, api.ErrForm
	}
	var blocks []int64
	if !met {
		if blocks, e = p.blocks(n, x.node); e != api.OK {
			return nil, e
		}
		if n.Size > 1024*int64(len(blocks)) {
			return nil, api.ErrCount
		}
		blocks = slices.Clone(blocks[:(n.Size+1023)/1024])
		runs = cutRuns(blocks, n.Size)
		p.runs[x.node] = runs
	}
	path.Runs = slices.Clone(runs)
	if n.Mode/4096 == 4 {
		path.Kind = api.Folder
		x.blocks = blocks
		p.paths = append(p.paths, path)
		return []thing{x}, api.OK
	}
	p.paths = append(p.paths, path)
	return nil, api.OK
}

// block: a folder's next block: what it names, then those behind it.
func (p *plain) block(x thing) (more []thing, e api.Errno) {
	n := x.blocks[0]
	if n == 0 {
		return nil, api.ErrForm
	}
	all, e := rowsByWords(p.d[1024*n : 1024*n+1024])
	if e != api.OK {
		return nil, e
	}
	for _, r := range all {
		if r.Node == 0 {
			continue
		}
		p.named[r.Node]++
		if r.Name != "." && r.Name != ".." {
			more = append(more, thing{name: x.name + "/" + r.Name, node: r.Node, depth: x.depth + 1})
		}
	}
	if x.blocks = x.blocks[1:]; len(x.blocks) > 0 {
		more = append(more, x)
	}
	return more, api.OK
}

// blocks: an inode's blocks, in order, 0 for noughts: what is still to be met is a
// list of numbers, each with how many more are between it and its blocks.
func (p *plain) blocks(x ext.Inode, me int64) (list []int64, e api.Errno) {
	type number struct {
		n     int64
		level int
	}
	var todo []number
	for i, n := range x.At {
		todo = append(todo, number{n, max(0, i-11)})
	}
	slices.Reverse(todo)
	noughts := 0
	list = p.room[:0]
	defer func() { p.room = list[:0] }()
	for len(todo) > 0 {
		x := todo[len(todo)-1]
		todo = todo[:len(todo)-1]
		if x.n == 0 {
			for i := 0; i < span(x.level) && noughts < 16384; i++ {
				list = append(list, 0)
				noughts++
			}
			continue
		}
		if x.n >= p.v.Super.Blocks {
			return list, api.ErrRange
		}
		if g := (x.n - 1) / p.v.Per; !p.v.Blocks[g].Has((x.n - 1) % p.v.Per) {
			return list, api.ErrForm
		}
		if _, has := p.owner[x.n]; has || p.fixed[x.n] > 0 {
			return list, api.ErrCross
		}
		p.owner[x.n] = me
		if x.level == 0 {
			list = append(list, x.n)
			continue
		}
		for i := 255; i >= 0; i-- {
			todo = append(todo, number{get32(p.d, int(1024*x.n)+4*i), x.level - 1})
		}
	}
	return list, api.OK
}

// cutRuns: where the first bytes of blocks stand.
func cutRuns(blocks []int64, size int64) (l []api.Ext) {
	for i, n := range blocks {
		long := min(1024, size-1024*int64(i))
		last := len(l) - 1
		switch {
		case n == 0 && last >= 0 && l[last].To == 0:
			l[last].From -= long
		case n == 0:
			l = append(l, api.Ext{From: -long})
		case last >= 0 && l[last].To == 1024*n:
			l[last].To += long
		default:
			l = append(l, api.Ext{From: 1024 * n, To: 1024*n + long})
		}
	}
	return l
}

// rest: what is free, lost and odd.
func (p *plain) rest() {
	for n := int64(1); n < p.v.Super.Blocks; n++ {
		_, had := p.owner[n]
		g := (n - 1) / p.v.Per
		switch {
		case !p.v.Blocks[g].Has((n - 1) % p.v.Per):
			if last := len(p.free) - 1; last >= 0 && p.free[last].To == 1024*n {
				p.free[last].To += 1024
			} else {
				p.free = append(p.free, api.Ext{From: 1024 * n, To: 1024*n + 1024})
			}
		case !had && p.fixed[n] == 0:
			p.lost = append(p.lost, n)
		}
	}
	for n := int64(1); n <= p.v.Inodes; n++ {
		g, i := (n-1)/p.v.Each, (n-1)%p.v.Each
		if (n == 2 || n >= p.v.First) && p.v.Nodes[g].Has(i) {
			if said := get16(p.d, int(1024*p.v.Rows[g].Table+128*i)+26); said != p.named[n] {
				p.odd = append(p.odd, extdir.Links{Node: n, Rows: p.named[n], Said: said})
			}
		}
	}
}

func samePaths(a, b []api.Path) bool {
	return slices.EqualFunc(a, b, func(x, y api.Path) bool {
		return x.Name == y.Name && x.Kind == y.Kind && x.Size == y.Size && slices.Equal(x.Runs, y.Runs)
	})
}

// tree: what Tree, Lost and Odd answer, held against the plain answer; the disk stays
// as it is; with an error there is nothing else.
func tree(t *testing.T, what string, d []byte) told {
	t.Helper()
	ahead := bytes.Clone(d)
	want := treeByWords(d)
	paths, free, e := extdir.Tree(bare(d))
	lost, e2 := extdir.Lost(bare(d))
	links, e3 := extdir.Odd(bare(d))
	if e != want.e || e2 != want.e || e3 != want.e {
		t.Fatalf("%s: errors %d, %d and %d, not %d", what, e, e2, e3, want.e)
	}
	if !samePaths(paths, want.paths) || !slices.Equal(free, want.free) || !slices.Equal(lost, want.lost) || !slices.Equal(links, want.odd) {
		t.Fatalf("%s:\n%v %v %v %v, not\n%v %v %v %v", what, paths, free, lost, links, want.paths, want.free, want.lost, want.odd)
	}
	if !bytes.Equal(d, ahead) {
		t.Fatalf("%s: what was handed in is changed", what)
	}
	whole(t, what, d, paths, free)
	return told{paths, free, lost, links, e}
}

// whole: each path has as many bytes as its size says, none of them free, or ahead of
// block 3; two paths have a run in common only if they have all of them.
func whole(t *testing.T, what string, d []byte, paths []api.Path, free extent.Set) {
	t.Helper()
	all := slices.Clone([]api.Ext(free))
	had := map[api.Ext][]api.Ext{}
	for _, p := range paths {
		n := int64(0)
		var real []api.Ext
		for _, x := range p.Runs {
			if x.From >= x.To || x.From >= 0 && x.From < 3072 || x.From < 0 && x.To != 0 || x.To > int64(len(d)) {
				t.Fatalf("%s: a run is nowhere: %v", what, p)
			}
			n += x.To - x.From
			if x.From > 0 {
				real = append(real, x)
			}
		}
		if n != p.Size {
			t.Fatalf("%s: the runs aren't of its size: %v", what, p)
		}
		if len(real) == 0 {
			continue
		}
		if again, was := had[real[0]]; was {
			if !slices.Equal(again, real) {
				t.Fatalf("%s: two have a run in common: %v", what, paths)
			}
			continue
		}
		had[real[0]] = real
		all = append(all, real...)
	}
	if !extent.Apart(all...) {
		t.Fatalf("%s: two have a byte in common: %v %v", what, paths, free)
	}
}

// fails: all calls answer an error, and so does the plain answer.
func fails(t *testing.T, what string, d []byte, want api.Errno) {
	t.Helper()
	if got := tree(t, what, d); got.e != want {
		t.Errorf("%s: error %d, not %d", what, got.e, want)
	}
}

// content: a path's bytes.
func content(d []byte, p api.Path) (b []byte) {
	for _, x := range p.Runs {
		if x.From < 0 {
			b = append(b, make([]byte, -x.From)...)
			continue
		}
		b = append(b, d[x.From:x.To]...)
	}
	return b
}
