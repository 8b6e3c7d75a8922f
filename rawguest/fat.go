package rawguest

import "strings"

// Fat is a FAT32 volume that is laid by hand: the fields of its first sector; what
// its table says of each cluster, from 2 on; the clusters that are still to be had,
// in their order; what its counts say.
type Fat struct {
	Each, Ahead, Tables, Sectors, Long, Root, Info, Copy int64

	Numbers []uint32
	Left    []int64
	Vague   bool // it isn't said how many clusters are free
	Next    int64

	b []byte
}

// NewFat: a volume on a partition with these bytes, which stay where nothing is
// laid. (A Root of 0: it is taken when the volume is filled.)
func NewFat(shape Fat, partition []byte) *Fat {
	f := shape
	f.b = append([]byte{}, partition...)
	f.Numbers = make([]uint32, f.Clusters())
	f.Left = nil
	for c := range f.Clusters() {
		f.Left = append(f.Left, c+2)
	}
	return &f
}

// Clusters: how many there are.
func (f *Fat) Clusters() int64 {
	return (f.Sectors - f.Ahead - f.Tables*f.Long) / f.Each
}

// unit: a cluster's bytes.
func (f *Fat) unit() int64 { return 512 * f.Each }

// at: where a cluster begins.
func (f *Fat) at(c int64) int64 {
	return 512*(f.Ahead+f.Tables*f.Long) + (c-2)*f.unit()
}

// Take: so many clusters more are a chain.
func (f *Fat) Take(n int64) []int64 {
	chain := append([]int64{}, f.Left[:n]...)
	f.Left = f.Left[n:]
	for i, c := range chain {
		f.Numbers[c-2] = 0x0FFFFFF8 + uint32(c%8)
		if i+1 < len(chain) {
			f.Numbers[c-2] = uint32(chain[i+1])
		}
	}
	return chain
}

// fill: bytes get clusters, and are laid there; the first of them.
func (f *Fat) fill(data []byte, least int64) int64 {
	n := max(units(int64(len(data)), f.unit()), least)
	if n == 0 {
		return 0
	}
	chain := f.Take(n)
	var places []int64
	for _, c := range chain {
		places = append(places, f.at(c))
	}
	laid(f.b, data, f.unit(), places)
	return chain[0]
}

// short: a name of up to 8 bytes, a point, and up to 3, as a row has it.
func short(name string) string {
	stem, end, _ := strings.Cut(name, ".")
	return (stem + "        ")[:8] + (end + "   ")[:3]
}

// row: a folder's row; the bytes of it that say nothing are noughts.
func row(short string, attributes byte, first, size int64) []byte {
	b := make([]byte, 32)
	copy(b, short)
	b[11] = attributes
	put(b, 20, 2, first>>16)
	put(b, 26, 2, first)
	put(b, 28, 4, size)
	return b
}

// rows: what is in a folder is laid, and its rows name it.
func (f *Fat) rows(files []File) []byte {
	var b []byte
	for _, x := range files {
		if x.Folder {
			dots := append(row(".          ", 16, 0, 0), row("..         ", 16, 0, 0)...)
			b = append(b, row(short(x.Name), 16, f.fill(append(dots, f.rows(x.Inside)...), 1), 0)...)
			continue
		}
		b = append(b, row(short(x.Name), 32, f.fill(x.Data, 0), int64(len(x.Data)))...)
	}
	return b
}

// Hold: the volume holds these; their names are of up to 8 letters, a point, and up to 3.
func (f *Fat) Hold(files ...File) *Fat {
	f.Root = f.fill(f.rows(files), 1)
	return f
}

// Free: how many clusters are.
func (f *Fat) Free() int64 {
	n := int64(0)
	for _, v := range f.Numbers {
		if v == 0 {
			n++
		}
	}
	return n
}

// Bytes: the partition's bytes: the volume's own sectors are laid now. Of a number
// in a table the four highest bits stay as they are.
func (f *Fat) Bytes() []byte {
	f.first(f.b)
	if f.Copy > 0 {
		copy(f.b[512*f.Copy:], f.b[:512])
	}
	counts := f.b[512*f.Info:]
	put(counts, 0, 4, 0x41615252)
	put(counts, 484, 4, 0x61417272)
	put(counts, 488, 4, f.Free())
	if f.Vague {
		put(counts, 488, 4, 0xFFFFFFFF)
	}
	put(counts, 492, 4, f.Next)
	put(counts, 508, 4, 0xAA550000)
	table := f.b[512*f.Ahead:]
	for i, v := range f.Numbers {
		at := 8 + 4*i
		put(table, int64(at), 4, int64(v)|int64(table[at+3]>>4)<<28)
	}
	if f.Tables > 1 {
		copy(table[512*f.Long:], table[:512*f.Long])
	}
	return append([]byte{}, f.b...)
}

// first: the fields of a first sector.
func (f *Fat) first(b []byte) {
	for _, x := range [][3]int64{
		{11, 2, 512}, {13, 1, f.Each}, {14, 2, f.Ahead}, {16, 1, f.Tables}, {17, 2, 0}, {19, 2, 0}, {22, 2, 0},
		{32, 4, f.Sectors}, {36, 4, f.Long}, {40, 4, 0}, {44, 4, f.Root}, {48, 2, f.Info}, {50, 2, f.Copy}, {510, 2, 0xAA55},
	} {
		put(b, x[0], x[1], x[2])
	}
	copy(b[82:], "FAT32   ")
}
