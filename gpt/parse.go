package gpt

import (
	"fettle/api"
	"fettle/crc"
)

// source is a disk that a table is read from, and how many sectors it has.
type source struct {
	disk    api.Disk
	sectors int64
}

// from: the disk, if it may have a table.
func from(d api.Disk) (source, api.Errno) {
	if d == nil {
		return source{}, api.ErrNil
	}
	size := d.Size()
	if size%api.Sector != 0 || size < leastSectors*api.Sector {
		return source{}, api.ErrRange
	}
	return source{disk: d, sectors: size / api.Sector}, api.OK
}

// secondHead: the sector of the second header.
func (s source) secondHead() int64 { return s.sectors - 1 }

// read: so many bytes from a sector on. A disk that answers others than it was
// asked for hasn't got them.
func (s source) read(sector, n int64) ([]byte, api.Errno) {
	b, e := s.disk.Read(sector*api.Sector, n)
	if e != api.OK {
		return nil, e
	}
	if int64(len(b)) != n {
		return nil, api.ErrRange
	}
	return b, api.OK
}

// head: what the header in a sector says.
func (s source) head(sector int64) (head, api.Errno) {
	b, e := s.read(sector, api.Sector)
	if e != api.OK {
		return head{}, e
	}
	return decodeHead(b)
}

// list: the entries that a header leads to.
func (s source) list(h head) ([]Entry, api.Errno) {
	if h.at > s.sectors-rowsOf(h.count) {
		return nil, api.ErrRange
	}
	b, e := s.read(h.at, int64(h.count)*EntrySize)
	if e != api.OK {
		return nil, e
	}
	if crc.Sum(b) != h.sum {
		return nil, api.ErrSum
	}
	return decodeList(b), api.OK
}

// table: what a header and its entries say. Where both rows of entries stand one
// header doesn't know.
func (s source) table(h head, list []Entry) Table {
	return Table{Sectors: s.sectors, First: h.first, Last: h.last, Id: h.id, List: list}
}

// checked: a table, if it is one.
func checked(t Table) (Table, api.Errno) {
	if e := t.Check(); e != api.OK {
		return Table{}, e
	}
	return t, api.OK
}

// Parse: a disk's table; both headers and both rows of entries must be there, and say the same.
func Parse(d api.Disk) (Table, api.Errno) {
	s, e := from(d)
	if e != api.OK {
		return Table{}, e
	}
	return s.parse()
}

func (s source) parse() (Table, api.Errno) {
	first, e := s.head(firstHead)
	if e != api.OK {
		return Table{}, e
	}
	second, e := s.head(s.secondHead())
	if e != api.OK {
		return Table{}, e
	}
	if !first.stands(firstHead, s.secondHead()) || !second.stands(s.secondHead(), firstHead) || first.said != second.said {
		return Table{}, api.ErrForm
	}
	list, e := s.list(first)
	if e != api.OK {
		return Table{}, e
	}
	if _, e := s.list(second); e != api.OK {
		return Table{}, e
	}
	t := s.table(first, list)
	t.At, t.Behind = first.at, second.at
	return checked(t)
}

// stands: does a header say that it stands in a sector, and the other one in another?
func (h head) stands(own, other int64) bool {
	return h.own == own && h.other == other
}

// alone: the table of a header, whatever the other one says. Its copy is put as
// far from the partitions as one may stand: it is clear of them wherever they are.
func (s source) alone(own, other int64) (Table, api.Errno) {
	h, e := s.head(own)
	if e != api.OK {
		return Table{}, e
	}
	if !h.stands(own, other) {
		return Table{}, api.ErrForm
	}
	list, e := s.list(h)
	if e != api.OK {
		return Table{}, e
	}
	t := s.table(h, list)
	t.At, t.Behind = h.at, other-t.rows()
	if own != firstHead {
		t.At, t.Behind = leastAt, h.at
	}
	return checked(t)
}

// Mend: what must be written on a disk of whose two tables one isn't right, so that both are as the other one says; nothing, if both are.
func Mend(d api.Disk) ([]Piece, api.Errno) {
	s, e := from(d)
	if e != api.OK {
		return nil, e
	}
	if _, e := s.parse(); e == api.OK || e == api.ErrIO {
		return nil, e
	}
	t, e := s.alone(firstHead, s.secondHead())
	switch e {
	case api.OK:
		return t.Encode()
	case api.ErrIO:
		return nil, e
	}
	t, second := s.alone(s.secondHead(), firstHead)
	switch second {
	case api.OK:
		return t.Encode()
	case api.ErrIO:
		return nil, second
	}
	return nil, e
}
