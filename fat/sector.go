package fat

import (
	"fettle/api"
	"fettle/octet"
)

// Where a first sector's fields stand, and what tells it.
const (
	eachAt    = 13
	aheadAt   = 14
	tablesAt  = 16
	sectorsAt = 32
	longAt    = 36
	rootAt    = 44
	infoAt    = 48
	copyAt    = 50
	nameAt    = 82
	name      = "FAT32   "
	signAt    = 510
	sign      = 0xAA55
)

// Where the counts stand in their sector.
const (
	freeAt = 488
	nextAt = 492
)

// fixed2 are the numbers of 2 bytes that are the same in all first sectors (the
// last two of them are one of 4).
var fixed2 = [...]struct {
	at int
	v  uint16
}{
	{11, api.Sector},
	{17, 0},
	{19, 0},
	{22, 0},
	{40, 0},
	{42, 0},
}

// signs are the numbers of 4 bytes that tell the sector with the counts.
var signs = [...]struct {
	at int
	v  uint32
}{
	{0, 0x41615252},
	{484, 0x61417272},
	{508, 0xAA550000},
}

// get16, get32: the number at a place of a sector.
func get16(s []byte, at int) int64 {
	v, _ := octet.U16(s, at)
	return int64(v)
}

func get32(s []byte, at int) int64 {
	v, _ := octet.U32(s, at)
	return int64(v)
}

// Parse: what a first sector says.
func Parse(s []byte) (Boot, api.Errno) {
	if len(s) != api.Sector {
		return Boot{}, api.ErrRange
	}
	if string(s[nameAt:nameAt+len(name)]) != name || get16(s, signAt) != sign {
		return Boot{}, api.ErrMagic
	}
	for _, f := range fixed2 {
		if v, _ := octet.U16(s, f.at); v != f.v {
			return Boot{}, api.ErrForm
		}
	}
	b := Boot{
		Each:    int64(s[eachAt]),
		Ahead:   get16(s, aheadAt),
		Tables:  int64(s[tablesAt]),
		Sectors: get32(s, sectorsAt),
		Long:    get32(s, longAt),
		Root:    get32(s, rootAt),
		Info:    get16(s, infoAt),
		Copy:    get16(s, copyAt),
	}
	if e := b.Check(); e != api.OK {
		return Boot{}, e
	}
	return b, api.OK
}

// Put: what it says is written into a first sector; all else stays.
func (b Boot) Put(s []byte) api.Errno {
	if len(s) != api.Sector {
		return api.ErrRange
	}
	if e := b.Check(); e != api.OK {
		return e
	}
	for _, f := range fixed2 {
		octet.Put16(s, f.at, f.v)
	}
	s[eachAt], s[tablesAt] = byte(b.Each), byte(b.Tables)
	octet.Put16(s, aheadAt, uint16(b.Ahead))
	octet.Put32(s, sectorsAt, uint32(b.Sectors))
	octet.Put32(s, longAt, uint32(b.Long))
	octet.Put32(s, rootAt, uint32(b.Root))
	octet.Put16(s, infoAt, uint16(b.Info))
	octet.Put16(s, copyAt, uint16(b.Copy))
	octet.Patch(s, nameAt, []byte(name))
	octet.Put16(s, signAt, sign)
	return api.OK
}

// ParseCounts: what the sector says.
func ParseCounts(s []byte) (Counts, api.Errno) {
	if len(s) != api.Sector {
		return Counts{}, api.ErrRange
	}
	for _, f := range signs {
		if v, _ := octet.U32(s, f.at); v != f.v {
			return Counts{}, api.ErrMagic
		}
	}
	return Counts{Free: get32(s, freeAt), Next: get32(s, nextAt)}, api.OK
}

// PutCounts: the sector that says it.
func PutCounts(c Counts) ([]byte, api.Errno) {
	if !within(0, Unknown, c.Free) || !within(0, Unknown, c.Next) {
		return nil, api.ErrRange
	}
	s := make([]byte, api.Sector)
	for _, f := range signs {
		octet.Put32(s, f.at, f.v)
	}
	octet.Put32(s, freeAt, uint32(c.Free))
	octet.Put32(s, nextAt, uint32(c.Next))
	return s, api.OK
}
