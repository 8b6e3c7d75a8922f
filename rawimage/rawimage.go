// Package rawimage looks over an image's bytes for the tests of the layers that
// change images. It has the format by the document's words once more, and calls
// no layer: what they all get wrong in the same way is seen here.
package rawimage

import "strconv"

// Ref is a reference to a cluster: from an entry of the table in a cluster, or
// (Table 0) from a snapshot's row.
type Ref struct {
	Cluster, Table, Index int64
	Own                   bool
}

// Image is what an image's bytes say.
type Image struct {
	b                             []byte
	Cluster, Entries, Size, Guest int64
	Host, First                   int64
	rows, counts                  int64 // where these clusters begin
	Refs                          []Ref
	seen                          map[int64]int // tables that were met, by their clusters
	fault                         string
}

func number(b []byte, at, n int64) uint64 {
	v := uint64(0)
	for i := n - 1; i >= 0; i-- {
		v = v<<8 | uint64(b[at+i])
	}
	return v
}

// Of: what a right image's bytes say; a fault, if they aren't one.
func Of(b []byte) (*Image, string) {
	x := &Image{b: b, seen: map[int64]int{}}
	if len(b) < 4096 || number(b, 0, 4) != 0x4C544546 {
		return nil, "no header"
	}
	x.Cluster = 1 << number(b, 4, 4)
	x.Entries = x.Cluster / 8
	x.Size = int64(number(b, 8, 8))
	x.Guest = (x.Size + x.Cluster - 1) / x.Cluster
	x.Host = int64(number(b, 16, 4))
	x.counts = (1 + int64(number(b, 20, 4))) * x.Cluster
	x.rows = x.counts + (2*x.Host+x.Cluster-1)/x.Cluster*x.Cluster
	x.First = x.rows/x.Cluster + 2
	if int64(len(b)) < x.First*x.Cluster {
		return nil, "a short file"
	}
	x.gather()
	if x.fault == "" {
		x.count()
	}
	return x, x.fault
}

func (x *Image) tell(what string, n int64) {
	if x.fault == "" {
		x.fault = what + " " + strconv.FormatInt(n, 10)
	}
}

// Count: what the file says of how often a cluster is referred to.
func (x *Image) Count(n int64) int {
	return int(number(x.b, x.counts+2*n, 2))
}

// Rows: the clusters of the snapshots' top tables, by their rows; 0: there is none.
func (x *Image) Rows() []int64 {
	var list []int64
	for i := range int64(8) {
		list = append(list, int64(number(x.b, x.rows+32*i+16, 8)))
	}
	return list
}

// Tops: the clusters of all top tables, the active disk's first.
func (x *Image) Tops() []int64 {
	list := []int64{x.First - 1}
	for _, n := range x.Rows() {
		if n != 0 {
			list = append(list, n)
		}
	}
	return list
}

// Spots: the references to a cluster.
func (x *Image) Spots(n int64) []Ref {
	var list []Ref
	for _, r := range x.Refs {
		if r.Cluster == n {
			list = append(list, r)
		}
	}
	return list
}

// refer: a cluster is referred to.
func (x *Image) refer(r Ref) {
	if r.Cluster < x.First || r.Cluster >= x.Host || (r.Cluster+1)*x.Cluster > int64(len(x.b)) {
		x.tell("a reference outside, to", r.Cluster)
		return
	}
	x.Refs = append(x.Refs, r)
}

// entry: a table's entry, as its number, and its cluster.
func (x *Image) entry(table, i int64) (v uint64, cluster int64) {
	v = number(x.b, table*x.Cluster+8*i, 8)
	return v, int64(v << 1 >> 9)
}

// gather: all references, each table's once.
func (x *Image) gather() {
	for i, n := range x.Rows() {
		if n != 0 {
			x.refer(Ref{Cluster: n, Index: int64(i)})
		}
	}
	for _, top := range x.Tops() {
		for i := range x.Entries {
			if x.fault != "" {
				return
			}
			if v, n := x.entry(top, i); v != 0 {
				x.way(top, i, v, n)
			}
		}
	}
}

// way: an entry of a top table that isn't None.
func (x *Image) way(top, i int64, v uint64, n int64) {
	if v&255 != 0 || i*x.Entries >= x.Guest {
		x.tell("a top table's entry that may not be", i)
		return
	}
	x.refer(Ref{Cluster: n, Table: top, Index: i, Own: v>>63 == 1})
	if x.fault != "" || x.seen[n] != 0 {
		return
	}
	x.seen[n] = 1
	for j := range x.Entries {
		v, held := x.entry(n, j)
		if v == 0 || v == 1 && i*x.Entries+j < x.Guest {
			continue
		}
		if v&255 != 0 || i*x.Entries+j >= x.Guest {
			x.tell("a table's entry that may not be", j)
			return
		}
		x.refer(Ref{Cluster: held, Table: n, Index: j, Own: v>>63 == 1})
	}
}

// count: are all counts right, and is what is Own referred to once?
func (x *Image) count() {
	counts := make([]int, x.Host)
	for n := range x.First {
		counts[n] = 1
	}
	for _, r := range x.Refs {
		counts[r.Cluster]++
	}
	for n, want := range counts {
		if x.Count(int64(n)) != want {
			x.tell("a count that isn't "+strconv.Itoa(want)+", of", int64(n))
		}
	}
	for _, r := range x.Refs {
		if r.Own && counts[r.Cluster] != 1 {
			x.tell("Own, and isn't:", r.Cluster)
		}
	}
}

// Way: where a guest's cluster stands by a top table: the number of its entry,
// its cluster, and that of its table; noughts: there is none.
func (x *Image) Way(top, g int64) (v uint64, cluster, table int64) {
	_, table = x.entry(top, g/x.Entries)
	if table != 0 {
		v, cluster = x.entry(table, g%x.Entries)
	}
	return v, cluster, table
}

// Disk: the guest's bytes by a top table, with these behind it.
func (x *Image) Disk(top int64, back []byte) []byte {
	out := make([]byte, x.Guest*x.Cluster)
	for g := range x.Guest {
		part := out[g*x.Cluster : (g+1)*x.Cluster]
		switch v, n, _ := x.Way(top, g); {
		case v > 1:
			copy(part, x.b[n*x.Cluster:])
		case v == 0 && g*x.Cluster < int64(len(back)):
			copy(part, back[g*x.Cluster:])
		}
	}
	return out[:x.Size]
}

// Essence: all of a file that counts: the clusters that are referred to, but the journal's.
func (x *Image) Essence() string {
	var out []byte
	for n := range x.Host {
		if journal := n > 0 && n*x.Cluster < x.counts; !journal && x.Count(n) > 0 {
			out = append(out, byte(n), byte(n>>8))
			out = append(out, x.b[n*x.Cluster:(n+1)*x.Cluster]...)
		}
	}
	return string(out)
}

// Keeps: which of so many writes that wait are kept at a crash: each choice,
// where they are few; else none, all, each one alone, all but each one, all up
// to each one, and some that look like any.
func Keeps(n int) [][]bool {
	var out [][]bool
	choose := func(kept func(i int) bool) {
		keep := make([]bool, n)
		for i := range keep {
			keep[i] = kept(i)
		}
		out = append(out, keep)
	}
	if n <= 4 {
		for set := range 1 << n {
			choose(func(i int) bool { return set>>i&1 == 1 })
		}
		return out
	}
	choose(func(int) bool { return false })
	choose(func(int) bool { return true })
	for k := range n {
		choose(func(i int) bool { return i == k })
		choose(func(i int) bool { return i != k })
		choose(func(i int) bool { return i < k })
	}
	mixed := uint32(1)
	for range 8 {
		choose(func(int) bool {
			mixed = mixed*1664525 + 1013904223
			return mixed>>31 == 1
		})
	}
	return out
}
