package fat

import (
	"bytes"

	"fettle/api"
	"fettle/extent"
	"fettle/octet"
)

// A number of the table: how many bytes it has, and which of its bits count.
const (
	numberSize = 4
	numberMask = 0x0FFFFFFF
)

// What Make makes, if it is asked for.
const (
	leastMade  = 16 // sectors
	madeAhead  = 4
	madeTables = 2
	madeInfo   = 1
	madeCopy   = 2
)

// Volume is a partition: what its first sector says, its table, its counts.
type Volume struct {
	Boot
	Next   []uint32 // by clusters, from 2 on: what the table says
	Counts Counts
}

// read: so many sectors of a disk. One that answers other bytes than it was asked
// for hasn't got them.
func read(d api.Disk, sector, count int64) ([]byte, api.Errno) {
	b, e := d.Read(sector*api.Sector, count*api.Sector)
	if e != api.OK {
		return nil, e
	}
	if int64(len(b)) != count*api.Sector {
		return nil, api.ErrRange
	}
	return b, api.OK
}

// Open: the volume of a partition.
func Open(d api.Disk) (*Volume, api.Errno) {
	if d == nil {
		return nil, api.ErrNil
	}
	b, e := openBoot(d)
	if e != api.OK {
		return nil, e
	}
	counts, e := b.counts(d)
	if e != api.OK {
		return nil, e
	}
	table, e := b.table(d)
	if e != api.OK {
		return nil, e
	}
	v := &Volume{Boot: b, Next: b.numbers(table), Counts: counts}
	if counts.Free != Unknown && counts.Free != v.free() {
		return nil, api.ErrCount
	}
	return v, api.OK
}

// openBoot: what a disk's first sector, and its copy, say.
func openBoot(d api.Disk) (Boot, api.Errno) {
	first, e := read(d, 0, 1)
	if e != api.OK {
		return Boot{}, e
	}
	b, e := Parse(first)
	if e != api.OK {
		return Boot{}, e
	}
	if b.Sectors > d.Size()/api.Sector {
		return Boot{}, api.ErrRange
	}
	if b.Copy == 0 {
		return b, api.OK
	}
	second, e := read(d, b.Copy, 1)
	if e != api.OK {
		return Boot{}, e
	}
	if !bytes.Equal(first, second) {
		return Boot{}, api.ErrForm
	}
	return b, api.OK
}

// counts: what the disk's sector with the counts says.
func (b Boot) counts(d api.Disk) (Counts, api.Errno) {
	s, e := read(d, b.Info, 1)
	if e != api.OK {
		return Counts{}, e
	}
	return ParseCounts(s)
}

// table: the bytes of the disk's first table; the second one, if there is one, has
// the same.
func (b Boot) table(d api.Disk) ([]byte, api.Errno) {
	first, e := read(d, b.Ahead, b.Long)
	if e != api.OK || b.Tables == 1 {
		return first, e
	}
	second, e := read(d, b.Ahead+b.Long, b.Long)
	if e != api.OK {
		return nil, e
	}
	if !bytes.Equal(first, second) {
		return nil, api.ErrForm
	}
	return first, api.OK
}

// numbers: what a table's bytes say of each cluster.
func (b Boot) numbers(table []byte) []uint32 {
	list := make([]uint32, b.Clusters())
	for i := range list {
		v, _ := octet.U32(table, (i+firstCluster)*numberSize)
		list[i] = v & numberMask
	}
	return list
}

// free: how many clusters are free.
func (v *Volume) free() int64 {
	n := int64(0)
	for _, next := range v.Next {
		if next == Free {
			n++
		}
	}
	return n
}

// next: what the table says of a cluster; false: there is none such.
func (v *Volume) next(cluster int64) (uint32, bool) {
	i := cluster - firstCluster
	if cluster < firstCluster || i >= int64(len(v.Next)) {
		return 0, false
	}
	return v.Next[i], true
}

// Chain: the clusters from one on, as the table says; each is in no other chain that was marked (and is marked now).
func (v *Volume) Chain(first int64, marks map[int64]int) ([]int64, api.Errno) {
	if v == nil {
		return nil, api.ErrNil
	}
	list, e := v.follow(first, marks)
	if e != api.OK {
		return nil, e
	}
	if marks != nil {
		for _, c := range list {
			marks[c] = 1
		}
	}
	return list, api.OK
}

// follow: a chain whose clusters are marked nowhere. It ends, as there are only so
// many clusters that it wasn't at.
func (v *Volume) follow(first int64, marks map[int64]int) ([]int64, api.Errno) {
	var list []int64
	seen := map[int64]struct{}{}
	c := first
	for {
		next, there := v.next(c)
		if !there {
			return nil, api.ErrRange
		}
		if _, was := seen[c]; was {
			return nil, api.ErrLoop
		}
		if marks[c] > 0 {
			return nil, api.ErrCross
		}
		if next == Free || next == Bad {
			return nil, api.ErrForm
		}
		seen[c] = struct{}{}
		list = append(list, c)
		if next >= End {
			return list, api.OK
		}
		c = int64(next)
	}
}

// Space: the bytes of the clusters that are free.
func (v *Volume) Space() extent.Set {
	if v == nil {
		return nil
	}
	var list []api.Ext
	for i, next := range v.Next {
		if next == Free {
			list = append(list, v.At(int64(i)+firstCluster))
		}
	}
	return extent.Norm(list...)
}

// Runs: the bytes of clusters, one behind the other; those that stand side by side together.
func (v *Volume) Runs(clusters []int64, size int64) []api.Ext {
	if v == nil {
		return nil
	}
	var runs []api.Ext
	for _, c := range clusters {
		x := v.At(c)
		n := min(x.To-x.From, size)
		if n <= 0 {
			break
		}
		size -= n
		last := len(runs) - 1
		if last < 0 || runs[last].To != x.From {
			runs = append(runs, api.Ext{From: x.From, To: x.From})
			last++
		}
		runs[last].To += n
	}
	return runs
}

// Make: the bytes of a volume that holds nothing but its root: so many sectors, so many of them a cluster; two tables.
func Make(sectors, each int64) ([]byte, api.Errno) {
	if !within(leastMade, mostSectors, sectors) || !within(1, mostEach, each) {
		return nil, api.ErrRange
	}
	b := Boot{Each: each, Ahead: madeAhead, Tables: madeTables, Sectors: sectors, Root: firstCluster, Info: madeInfo, Copy: madeCopy}
	b.Long = (sectors/each + firstCluster + perSector - 1) / perSector
	first := make([]byte, api.Sector)
	if e := b.Put(first); e != api.OK {
		return nil, e
	}
	counts, e := PutCounts(Counts{Free: b.Clusters() - 1, Next: b.Root + 1})
	if e != api.OK {
		return nil, e
	}
	out := make([]byte, sectors*api.Sector)
	octet.Patch(out, 0, first)
	octet.Patch(out, madeInfo*api.Sector, counts)
	octet.Patch(out, madeCopy*api.Sector, first)
	for i := range b.Tables {
		begin(out, b.Ahead+i*b.Long)
	}
	return out, api.OK
}

// begin: a table gets the numbers with which it begins: two that are no cluster's,
// and the root's.
func begin(volume []byte, sector int64) {
	for i, v := range [...]uint32{End, numberMask, numberMask} {
		octet.Put32(volume, int(sector*api.Sector)+i*numberSize, v)
	}
}
