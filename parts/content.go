package parts

import (
	"slices"

	"fettle/api"
	"fettle/crc"
)

// total: how many bytes a path's runs have; false: its size or a run may not be,
// or they are more than its size. (A run's length may be beyond what an int64 has.)
func total(p api.Path) (int64, bool) {
	if p.Size < 0 || p.Size > api.MaxGuest {
		return 0, false
	}
	sum := int64(0)
	for _, x := range p.Runs {
		n := uint64(x.To) - uint64(x.From)
		if x.To < x.From || n > uint64(p.Size-sum) {
			return 0, false
		}
		sum += int64(n)
	}
	return sum, true
}

// bytesOf: a run's bytes; one that begins below 0 stands nowhere, and is noughts.
func bytesOf(d api.Disk, x api.Ext) ([]byte, api.Errno) {
	if x.From < 0 {
		return make([]byte, x.To-x.From), api.OK
	}
	return read(d, x.From, x.To-x.From)
}

// Content: a path's bytes, on its partition.
func Content(d api.Disk, p api.Path) ([]byte, api.Errno) {
	if d == nil {
		return nil, api.ErrNil
	}
	sum, fits := total(p)
	if !fits {
		return nil, api.ErrRange
	}
	out := make([]byte, 0, sum)
	for _, x := range p.Runs {
		b, e := bytesOf(d, x)
		if e != api.OK {
			return nil, e
		}
		out = append(out, b...)
	}
	if sum < p.Size {
		return nil, api.ErrCount
	}
	return out, api.OK
}

// Sums: of each path's bytes the sum; of a folder's 0.
func Sums(d api.Disk, l []api.Path) ([]uint32, api.Errno) {
	sums := make([]uint32, len(l))
	for i, p := range l {
		if p.Kind != api.File {
			continue
		}
		b, e := Content(d, p)
		if e != api.OK {
			return nil, e
		}
		sums[i] = crc.Sum(b)
	}
	return sums, api.OK
}

// Find: the path of a name.
func Find(l []api.Path, name string) (api.Path, bool) {
	i := slices.IndexFunc(l, func(p api.Path) bool { return p.Name == name })
	if i < 0 {
		return api.Path{}, false
	}
	p := l[i]
	p.Runs = slices.Clone(p.Runs)
	return p, true
}
