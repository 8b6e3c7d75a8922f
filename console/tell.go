package console

import (
	"bytes"
	"strconv"

	"fettle/api"
	"fettle/audit"
	"fettle/crc"
	"fettle/extdir"
	"fettle/fatdir"
	"fettle/image"
	"fettle/parts"
	"fettle/plan"
	"fettle/resize"
	"fettle/snapshot"
	"fettle/trim"
)

// tell: what an order answers that tells of the image. What a broken tool's file
// would show may be half of a change.
func tell(t *trim.Tool, o Order) (string, api.Errno) {
	if t.Broken() {
		return "", api.ErrState
	}
	im := t.Image()
	switch o.Word {
	case "get":
		return content(im.Active(), o.Nums)
	case "see":
		v, e := snapshot.View(im, o.Name)
		if e != api.OK {
			return "", e
		}
		return content(v, o.Nums)
	case "list":
		return names(im)
	case "parts":
		return table(im.Active())
	case "check":
		info, e := audit.Check(t.Bytes())
		return line("clusters", number(info.Used()), number(len(info.Refs))), e
	case "length":
		return line("length", number(t.Len())), api.OK
	case "dry":
		return dry(t)
	case "differ":
		return differ(im, o.Name)
	case "tree":
		return tree(im.Active(), o.Nums[0])
	case "lost":
		return lost(im.Active(), o.Nums[0])
	}
	return odd(im.Active(), o.Nums[0])
}

// content: bytes of a disk, from a place on so many: how many, their sum, with how
// many noughts they begin.
func content(d api.Disk, nums []int64) (string, api.Errno) {
	b, e := d.Read(nums[0], nums[1])
	if e != api.OK {
		return "", e
	}
	noughts := len(b) - len(bytes.TrimLeft(b, "\x00"))
	return line("bytes", number(len(b)), number(crc.Sum(b)), number(noughts)), api.OK
}

// names: an image's snapshots.
func names(im *image.Image) (string, api.Errno) {
	list, e := snapshot.List(im)
	words := []string{"snapshots", number(len(list))}
	for _, s := range list {
		words = append(words, s.Name)
	}
	return line(words...), e
}

// table: a disk's partitions.
func table(d api.Disk) (string, api.Errno) {
	m, e := parts.Parse(d)
	words := []string{"parts", number(m.Kind)}
	for _, p := range m.Parts {
		words = append(words, span(p.Ext))
	}
	return line(words...), e
}

// dry: what can be given back.
func dry(t *trim.Tool) (string, api.Errno) {
	r, e := t.Dry()
	words := []string{"free", number(r.Free.Bytes()), number(r.Bytes), number(len(r.Steps))}
	for _, v := range r.Volumes {
		words = append(words, "volume", number(v.Kind), number(v.E), number(v.Free.Bytes()))
	}
	words = append(words, spans(r.Whole))
	return line(words...), e
}

// differ: where a snapshot and the active disk are unlike.
func differ(im *image.Image, name string) (string, api.Errno) {
	v, e := snapshot.View(im, name)
	if e != api.OK {
		return "", e
	}
	unlike, e := plan.Differ(v, im.Active())
	return line("differ", number(unlike.Bytes()), spans(unlike)), e
}

// window: a disk's partition of a number, as a disk.
func window(d api.Disk, n int64) (api.Disk, api.Errno) {
	m, e := parts.Parse(d)
	if e != api.OK {
		return nil, e
	}
	if n < 0 || n >= int64(len(m.Parts)) {
		return nil, api.ErrNone
	}
	return parts.Window(d, m.Parts[n].Ext)
}

// tree: a partition's paths, and the sums of what they hold.
func tree(d api.Disk, n int64) (string, api.Errno) {
	w, e := window(d, n)
	if e != api.OK {
		return "", e
	}
	kind, paths, _, e := resize.Known(w)
	if e != api.OK {
		return "", e
	}
	sums, e := parts.Sums(w, paths)
	if e != api.OK {
		return "", e
	}
	words := []string{"tree", number(kind), number(len(paths))}
	for i, p := range paths {
		words = append(words, strconv.Quote(p.Name), number(p.Size), number(sums[i]))
	}
	return line(words...), api.OK
}

// lost: what is in use on a partition, and nothing reaches.
func lost(d api.Disk, n int64) (string, api.Errno) {
	w, e := window(d, n)
	if e != api.OK {
		return "", e
	}
	kind, _, _, e := resize.Known(w)
	if e != api.OK {
		return "", e
	}
	find := extdir.Lost
	if kind == resize.Fat {
		find = fatdir.Lost
	}
	list, e := find(w)
	words := []string{"lost", number(len(list))}
	for _, x := range list {
		words = append(words, number(x))
	}
	return line(words...), e
}

// odd: the inodes of a partition that say another count of rows than there are. What
// isn't known isn't of the kind that has some, either; what the disk refuses is not
// known of it.
func odd(d api.Disk, n int64) (string, api.Errno) {
	w, e := window(d, n)
	if e != api.OK {
		return "", e
	}
	kind, _, _, e := resize.Known(w)
	if e == api.ErrIO {
		return "", e
	}
	if kind != resize.Ext {
		return "", api.ErrState
	}
	list, e := extdir.Odd(w)
	words := []string{"odd", number(len(list))}
	for _, x := range list {
		words = append(words, number(x.Node), number(x.Rows), number(x.Said))
	}
	return line(words...), e
}
