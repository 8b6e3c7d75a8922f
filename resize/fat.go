package resize

import (
	"slices"

	"fettle/api"
	"fettle/fat"
	"fettle/octet"
)

// The table of clusters: the first that there is, and how many numbers, of so many
// bytes, a sector of it has.
const (
	firstCluster = 2
	numberSize   = 4
	perSector    = api.Sector / numberSize
)

// Where the sector with the counts has them.
const (
	freeAt = 488
	nextAt = 492
)

// lastCluster: the last that there is.
func lastCluster(b fat.Boot) int64 {
	return b.Clusters() + firstCluster - 1
}

// sector: a sector of a disk, as new memory. A disk that answers other bytes than
// it was asked for hasn't got them.
func sector(d api.Disk, n int64) ([]byte, api.Errno) {
	b, e := d.Read(n*api.Sector, api.Sector)
	if e != api.OK {
		return nil, e
	}
	if len(b) != api.Sector {
		return nil, api.ErrRange
	}
	return slices.Clone(b), api.OK
}

// FatTo: what must be written on a partition, so that its volume has so many sectors.
func FatTo(d api.Disk, sectors int64) ([]Piece, api.Errno) {
	v, e := fat.Open(d)
	if e != api.OK {
		return nil, e
	}
	then := v.Boot
	then.Sectors = sectors
	if e := fatFits(v, then); e != api.OK {
		return nil, e
	}
	first, e := fatFirst(d, then)
	if e != api.OK {
		return nil, e
	}
	counts, e := fatCounts(d, v, then)
	if e != api.OK {
		return nil, e
	}
	tables, e := fatTables(d, v.Boot, then)
	if e != api.OK {
		return nil, e
	}
	return slices.Concat(first, counts, tables), api.OK
}

// fatFits: may a volume be what another boot says, with all that it has in use?
func fatFits(v *fat.Volume, then fat.Boot) api.Errno {
	switch {
	case then.Sectors < 1 || then.Clusters() < 1:
		return api.ErrSmall
	case then.Clusters() > perSector*then.Long-firstCluster || then.Sectors > mostSectors:
		return api.ErrLimit
	case then.Root > lastCluster(then):
		return api.ErrSmall
	}
	if e := then.Check(); e != api.OK {
		return e
	}
	for c := then.Clusters(); c < v.Clusters(); c++ {
		if v.Next[c] != fat.Free {
			return api.ErrSmall
		}
	}
	return api.OK
}

// fatFirst: the first sector, and its copy, if there is one.
func fatFirst(d api.Disk, then fat.Boot) ([]Piece, api.Errno) {
	b, e := sector(d, 0)
	if e != api.OK {
		return nil, e
	}
	if e := then.Put(b); e != api.OK {
		return nil, e
	}
	list := []Piece{piece(0, b)}
	if then.Copy != 0 {
		list = append(list, piece(then.Copy*api.Sector, b))
	}
	return list, api.OK
}

// fatCounts: the sector with the counts; what else stands in it stays. Clusters
// that come, or go, are free.
func fatCounts(d api.Disk, v *fat.Volume, then fat.Boot) ([]Piece, api.Errno) {
	b, e := sector(d, then.Info)
	if e != api.OK {
		return nil, e
	}
	if v.Counts.Free != fat.Unknown {
		octet.Put32(b, freeAt, uint32(v.Counts.Free+then.Clusters()-v.Clusters()))
	}
	if v.Counts.Next > lastCluster(then) {
		octet.Put32(b, nextAt, fat.Unknown)
	}
	return []Piece{piece(then.Info*api.Sector, b)}, api.OK
}

// fatTables: the tables' sectors with the numbers of clusters that are new, which
// are free.
func fatTables(d api.Disk, was, then fat.Boot) ([]Piece, api.Errno) {
	var list []Piece
	from, to := lastCluster(was)+1, lastCluster(then)+1
	for from < to {
		n := from / perSector
		b, e := sector(d, was.Ahead+n)
		if e != api.OK {
			return nil, e
		}
		for ; from < to && from/perSector == n; from++ {
			octet.Put32(b, int(from%perSector)*numberSize, fat.Free)
		}
		for i := range was.Tables {
			list = append(list, piece((was.Ahead+i*was.Long+n)*api.Sector, b))
		}
	}
	return list, api.OK
}
