package gpt

import (
	"fettle/api"
	"fettle/crc"
	"fettle/octet"
)

// magic begins a header.
const magic = "EFI PART"

// Where a header's fields stand behind the magic.
const (
	versionAt = 8
	lengthAt  = 12
	sumAt     = 16
	noughtAt  = 20
	ownAt     = 24
	otherAt   = 32
	firstAt   = 40
	lastAt    = 48
	idAt      = 56
	entriesAt = 72
	countAt   = 80
	eachAt    = 84
	listSumAt = 88
)

// Where an entry's fields stand behind who and what it is.
const (
	entryFirstAt = 32
	entryLastAt  = 40
	restAt       = 48
)

// greatest is what a number of 8 bytes counts as, if it is above it.
const greatest = 8388608

// field is a number of 4 bytes, and where it stands.
type field struct {
	at int
	v  uint32
}

// fixed are the fields of a header that are the same in all.
var fixed = [...]field{
	{versionAt, 0x10000},
	{lengthAt, HeadSize},
	{noughtAt, 0},
	{eachAt, EntrySize},
}

// said is what both headers say alike.
type said struct {
	first, last int64
	id          [16]byte
	count       int
	sum         uint32 // of the entries
}

// head is what a header says: its own sector, the other header's, where its
// entries begin.
type head struct {
	said
	own, other, at int64
}

// number: the number of 8 bytes at a place.
func number(b []byte, at int) int64 {
	v, _ := octet.U64(b, at)
	return int64(min(v, greatest))
}

// encode: a header's sector.
func (h head) encode() []byte {
	b := make([]byte, api.Sector)
	octet.Patch(b, 0, []byte(magic))
	for _, f := range fixed {
		octet.Put32(b, f.at, f.v)
	}
	octet.Put64(b, ownAt, uint64(h.own))
	octet.Put64(b, otherAt, uint64(h.other))
	octet.Put64(b, firstAt, uint64(h.first))
	octet.Put64(b, lastAt, uint64(h.last))
	octet.Patch(b, idAt, h.id[:])
	octet.Put64(b, entriesAt, uint64(h.at))
	octet.Put32(b, countAt, uint32(h.count))
	octet.Put32(b, listSumAt, h.sum)
	octet.Put32(b, sumAt, headSum(b))
	return b
}

// headSum: the sum that a header's sector must tell.
func headSum(b []byte) uint32 {
	return crc.Over(b[:HeadSize], sumAt)
}

// decodeHead: what a header's sector says.
func decodeHead(b []byte) (head, api.Errno) {
	if octet.Same(b, []byte(magic)) != len(magic) {
		return head{}, api.ErrMagic
	}
	count, _ := octet.U32(b, countAt)
	if !formed(b) || count < 1 || count > MaxEntries {
		return head{}, api.ErrForm
	}
	if sum, _ := octet.U32(b, sumAt); sum != headSum(b) {
		return head{}, api.ErrSum
	}
	h := head{own: number(b, ownAt), other: number(b, otherAt), at: number(b, entriesAt)}
	h.first, h.last = number(b, firstAt), number(b, lastAt)
	h.count = int(count)
	h.sum, _ = octet.U32(b, listSumAt)
	copy(h.id[:], b[idAt:])
	return h, api.OK
}

// formed: is all that is the same in every header as it must be?
func formed(b []byte) bool {
	for _, f := range fixed {
		if v, _ := octet.U32(b, f.at); v != f.v {
			return false
		}
	}
	return octet.Zero(b[HeadSize:])
}

// encode: an entry's bytes.
func (x Entry) encode() []byte {
	b := make([]byte, EntrySize)
	octet.Patch(b, 0, x.Ids[:])
	octet.Put64(b, entryFirstAt, uint64(x.First))
	octet.Put64(b, entryLastAt, uint64(x.Last))
	octet.Patch(b, restAt, x.Rest[:])
	return b
}

// decodeEntry: the entry of its bytes.
func decodeEntry(b []byte) Entry {
	x := Entry{First: number(b, entryFirstAt), Last: number(b, entryLastAt)}
	copy(x.Ids[:], b)
	copy(x.Rest[:], b[restAt:])
	return x
}

// decodeList: the entries of their bytes.
func decodeList(b []byte) []Entry {
	var list []Entry
	for at := 0; at < len(b); at += EntrySize {
		list = append(list, decodeEntry(b[at:at+EntrySize]))
	}
	return list
}

// entries: the bytes of all entries.
func (t Table) entries() []byte {
	var parts [][]byte
	for _, x := range t.List {
		parts = append(parts, x.encode())
	}
	return octet.Join(parts...)
}

// Encode: what must stand on the disk: the entries and the header at the beginning, those at the end.
func (t Table) Encode() ([]Piece, api.Errno) {
	if e := t.Check(); e != api.OK {
		return nil, e
	}
	b := t.entries()
	alike := said{first: t.First, last: t.Last, id: t.Id, count: len(t.List), sum: crc.Sum(b)}
	first := head{said: alike, own: firstHead, other: t.secondHead(), at: t.At}
	second := head{said: alike, own: t.secondHead(), other: firstHead, at: t.Behind}
	var pieces []Piece
	for _, h := range []head{first, second} {
		pieces = append(pieces,
			Piece{At: h.at * api.Sector, B: octet.Pad(b, api.Sector)},
			Piece{At: h.own * api.Sector, B: h.encode()})
	}
	return pieces, api.OK
}
