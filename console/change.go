package console

import (
	"slices"

	"fettle/api"
	"fettle/ext"
	"fettle/fat"
	"fettle/gpt"
	"fettle/header"
	"fettle/image"
	"fettle/mbr"
	"fettle/trim"
)

// mostBits is what an image's Bits are cut to.
const mostBits = 99

// How volumes are written: from which sector on at most, and so many bytes in a Write.
const (
	furthestSector = 32768
	inOneWrite     = 4096
)

// How many numbers tell a partition: of an MBR its type, its first sector, how many;
// of a GPT its first and its last sector.
const (
	perMbr = 3
	perGpt = 2
)

// The table of an order gpt: where its entries begin, how many there are, which
// sector partitions may have first.
const (
	gptAt      = 2
	gptEntries = 4
	gptFirst   = gptAt + 1
)

// What the first byte of an entry of such a table is, and which byte tells the
// entries from one another.
const (
	gptType = 1
	gptName = 16
)

// answer: what an order answers; with an error the text says nothing.
func (p *Player) answer(o Order) (string, api.Errno) {
	if p == nil {
		return "", api.ErrNil
	}
	if p.tool == nil && o.Word != "make" && o.Word != "recover" {
		return "", api.ErrState
	}
	if e := o.check(); e != api.OK {
		return "", e
	}
	switch o.Word {
	case "make":
		return done, p.begin(o.Nums)
	case "recover":
		return done, p.reopen()
	case "crash":
		return p.crash(o.Nums), api.OK
	}
	return change(p.tool, o)
}

// take: a file's bytes have the tool from now on, if they are a right image's.
func (p *Player) take(b []byte) api.Errno {
	t, e := trim.Open(b)
	if e != api.OK {
		return e
	}
	p.tool, p.left = t, nil
	return api.OK
}

// begin: a tool for an image that holds nothing.
func (p *Player) begin(nums []int64) api.Errno {
	h := header.Header{Bits: cut(nums[0], mostBits), Size: nums[1], Host: nums[2]}
	h.Journal = h.Least()
	if len(nums) > 3 {
		h.Journal = nums[3]
	}
	b, e := image.Make(h)
	if e != api.OK {
		return e
	}
	return p.take(b)
}

// reopen: the tool goes on with its file, or, where it is gone, with what is left.
func (p *Player) reopen() api.Errno {
	if p.tool != nil {
		return p.tool.Recover()
	}
	return p.take(p.left)
}

// crash: the power goes; of the writes that wait those whose number isn't 0 are kept.
func (p *Player) crash(nums []int64) string {
	var keep []bool
	for _, n := range nums {
		keep = append(keep, n != 0)
	}
	p.left = p.tool.Crash(keep...)
	p.tool = nil
	return line("left", number(len(p.left)))
}

// change: what an order answers that changes what the tool has, or how its file is
// to behave; else what tell does.
func change(t *trim.Tool, o Order) (string, api.Errno) {
	switch o.Word {
	case "mbr":
		return done, putMbr(t, o.Nums)
	case "gpt":
		return done, putGpt(t, o.Nums)
	case "fat":
		b, e := fat.Make(o.Nums[1], o.Nums[2])
		return done, lay(t, o.Nums[0], b, e)
	case "ext":
		b, e := ext.Make(o.Nums[1], o.Nums[2], o.Nums[3])
		return done, lay(t, o.Nums[0], b, e)
	case "put":
		return done, put(t, o.Nums)
	case "snap":
		return done, t.Snap(o.Name)
	case "drop":
		return done, t.Drop(o.Name)
	case "back":
		return done, t.Back(o.Name)
	case "resize":
		return done, t.Resize(o.Nums[0])
	case "refuse":
		t.Refuse(cut(o.Nums[0], api.MaxOps))
		return done, api.OK
	case "stop":
		t.Stop(cut(o.Nums[0], api.MaxOps))
		return done, api.OK
	case "trim":
		r, steps, e := t.Sparsify()
		return line("trimmed", number(steps), number(r.Bytes)), e
	case "squeeze":
		n, e := t.Squeeze()
		return counted("squeezed", n, e)
	case "mend":
		n, e := t.Mend()
		return counted("mended", n, e)
	case "compact":
		n, e := t.Compact()
		return counted("moved", n, e)
	}
	return tell(t, o)
}

// putMbr: the first sector has these entries, three numbers each.
func putMbr(t *trim.Tool, nums []int64) api.Errno {
	var list []mbr.Entry
	for x := range slices.Chunk(nums, perMbr) {
		if len(x) == perMbr {
			list = append(list, mbr.Entry{Type: int(uint8(x[0])), First: x[1], Count: x[2]})
		}
	}
	b, e := mbr.Make(list...)
	if e != api.OK {
		return e
	}
	return t.Write(image.Edit{B: b})
}

// gptOf: the table of a disk of so many sectors with these partitions, two numbers each.
func gptOf(sectors int64, nums []int64) gpt.Table {
	g := gpt.Table{
		Sectors: sectors,
		First:   gptFirst,
		Last:    sectors - 3,
		List:    make([]gpt.Entry, gptEntries),
		At:      gptAt,
		Behind:  sectors - 2,
	}
	for i := range len(nums) / perGpt {
		x := &g.List[i]
		x.Ids[0], x.Ids[gptName] = gptType, byte(2*i+1)
		x.First, x.Last = nums[perGpt*i], nums[perGpt*i+1]
	}
	return g
}

// putGpt: the disk has such a table, and a first sector that says so, all at once.
func putGpt(t *trim.Tool, nums []int64) api.Errno {
	sectors := t.Image().Size / api.Sector
	pieces, e := gptOf(sectors, nums).Encode()
	if e != api.OK {
		return e
	}
	guard, e := mbr.Make(mbr.Entry{Type: mbr.Guard, First: 1, Count: sectors - 1})
	if e != api.OK {
		return e
	}
	edits := []image.Edit{{B: guard}}
	for _, x := range pieces {
		edits = append(edits, image.Edit(x))
	}
	return t.Write(edits...)
}

// lay: a volume, as it was made, or why it wasn't, is written from a sector on. The
// sector is held against its bound first, so that the product can't wrap round.
func lay(t *trim.Tool, sector int64, volume []byte, e api.Errno) api.Errno {
	if e != api.OK {
		return e
	}
	if sector < 0 || sector > furthestSector || sector*api.Sector+int64(len(volume)) > t.Image().Size {
		return api.ErrRange
	}
	at := sector * api.Sector
	for b := range slices.Chunk(volume, inOneWrite) {
		if e := t.Write(image.Edit{At: at, B: b}); e != api.OK {
			return e
		}
		at += int64(len(b))
	}
	return api.OK
}

// put: bytes stand from a place on. Without a place there are none, either.
func put(t *trim.Tool, nums []int64) api.Errno {
	var x image.Edit
	for i, n := range nums {
		if i == 0 {
			x.At = n
			continue
		}
		x.B = append(x.B, byte(n))
	}
	return t.Write(x)
}
