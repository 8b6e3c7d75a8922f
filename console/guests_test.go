package console_test

import (
	"fmt"
	"hash/crc32"
	"slices"
	"strconv"
	"strings"
	"testing"

	"fettle/api"
	"fettle/console"
	"fettle/image"
	"fettle/rawguest"
)

// A disk of 300 sectors: a FAT volume, a partition that isn't known, a volume of groups;
// the table names the last one first.
const (
	fatAt, fatSectors         = 8, 64
	strangeAt, strangeSectors = 80, 10
	extAt, extBlocks          = 100, 80

	laidImage, laidSize = "make 9 153600 700", 153600
	mbrLine, gptLine    = "mbr 131 100 160 7 80 10 12 8 64", "gpt 100 259 80 89 8 71"
	partsLine           = " 4096-36864 40960-46080 51200-133120"
)

// files: some, whose names are quoted in all ways.
func files(seed int64, names ...string) []rawguest.File {
	var list, inside []rawguest.File
	for i, name := range names {
		f := rawguest.File{Name: name, Data: pattern(300*int64(i%4), seed+int64(i))}
		if i%3 == 0 {
			list = append(list, f)
		} else {
			inside = append(inside, f)
		}
	}
	return append(list, rawguest.File{Name: "IN", Folder: true, Inside: append(inside, rawguest.File{Name: "EMPTY", Folder: true})})
}

// laidGuest: that disk, behind its tables' sectors: of both volumes two clusters, or
// blocks, are lost; inodes say another count of rows than name them.
func laidGuest() (d []byte, fatFiles, extFiles []rawguest.File, fatLost, extLost []int64) {
	d = make([]byte, laidSize)
	fatFiles = files(1, "A.TXT", `Q"U.B\`, "T\tB", "\xff\xfeX.\xe4", "\u00e9", "B C.D", "\x7f")
	f := rawguest.NewFat(rawguest.Fat{Each: 1, Ahead: 4, Tables: 2, Long: 1, Sectors: fatSectors, Info: 1, Copy: 2, Next: 2}, pattern(512*fatSectors, 3))
	f.Hold(fatFiles...)
	fatLost = f.Take(2)
	copy(d[512*fatAt:], f.Bytes())
	copy(d[512*strangeAt:], pattern(512*strangeSectors, 5))
	extFiles = files(9, "plain", `"quoted"`, "two\nlines", "a blank", "\xc3", "\u2028\u00e9", "\\", "back`tick")
	x := rawguest.NewExt(rawguest.Ext{Blocks: extBlocks, Per: 128, Each: 32, First: 11, Types: true}, pattern(1024*extBlocks, 7), func(int64) int64 { return 0 })
	x.Hold(extFiles...)
	extLost = []int64{x.Take(), x.Take()}
	b := x.Bytes()
	for node, says := range map[int64]int64{2: 9, 12: 0, 13: 1} {
		at := 1024*x.Groups[0].Table + 128*(node-1) + 26
		b[at], b[at+1] = byte(says), 0
	}
	copy(d[512*extAt:], b)
	return d, fatFiles, extFiles, fatLost, extLost
}

// tree: what is told of files: a folder has the size of its clusters or blocks.
func tree(kind int, folder int, list ...rawguest.File) string {
	paths := rawguest.Paths(list...)
	text := fmt.Sprint("tree ", kind, " ", len(paths))
	for _, x := range paths {
		size, sum := len(x.Data), crc32.ChecksumIEEE(x.Data)
		if x.Folder {
			size, sum = folder, 0
		}
		text += " " + strconv.Quote(x.Name) + " " + strconv.Itoa(size) + " " + strconv.Itoa(int(sum))
	}
	return text
}

// laid: a player that has that disk, all of it from the first partition to the last one's
// end written.
func laid(t *testing.T, table string) *console.Player {
	t.Helper()
	p := goes(t, laidImage, table)
	d, _, _, _, _ := laidGuest()
	at := int64(512 * fatAt)
	for b := range slices.Chunk(d[at:512*(extAt+2*extBlocks)], 4096) {
		if e := p.Tool().Write(image.Edit{At: at, B: b}); e != api.OK {
			t.Fatal("error", e)
		}
		at += int64(len(b))
	}
	return p
}

// TestPartitions: tree, lost and odd of partitions of both kinds, of one that isn't known,
// and of none, by both tables; the partitions rise, whatever the table's order.
func TestPartitions(t *testing.T) {
	_, fatFiles, extFiles, fatLost, extLost := laidGuest()
	for kind, line := range []string{mbrLine, gptLine} {
		p := laid(t, line)
		says(t, p,
			"parts", fmt.Sprint("parts ", kind+1, partsLine),
			"tree 0", tree(1, 512, fatFiles...), "tree 1", "error 10", "tree 2", tree(2, 1024, extFiles...),
			"lost 0", fmt.Sprint("lost 2 ", fatLost[0], " ", fatLost[1]), "lost 1", "error 10", "lost 2", fmt.Sprint("lost 2 ", extLost[0], " ", extLost[1]),
			// The root: ".", "..", and the ".." of the one folder in it.
			"odd 0", "error 6", "odd 1", "error 6", "odd 2", "odd 2 2 3 9 12 1 0")
		for _, l := range []string{"tree", "lost", "odd"} {
			for _, n := range []int{3, -1, 4, 1 << 40, -1 << 40} {
				says(t, p, fmt.Sprint(l, " ", n), "error 22")
			}
		}
		// A volume that isn't right: no kind, and why.
		says(t, p, "put 4096 1", "ok", "tree 0", "error 11", "lost 0", "error 11", "odd 0", "error 6", "put 51200 1", "ok", "odd 2", "odd 2 2 3 9 12 1 0",
			fmt.Sprint("put ", 51200+1024+56, " 0"), "ok", "tree 2", "error 10", "lost 2", "error 10", "odd 2", "error 6",
			"put 510 0", "ok", "tree 0", "error 10", "lost 3", "error 10", "odd 0", "error 10", "dry", "error 10")
	}
}

// TestDry: of each partition its kind, its error, its free bytes; of all what lies whole in
// what is free.
func TestDry(t *testing.T) {
	p := laid(t, mbrLine)
	// Free clusters and blocks, at the volumes' ends: all behind what was taken.
	_, _, _, fatLost, extLost := laidGuest()
	fatFree, extFree := int64(fatSectors-6+2)-(fatLost[1]+1), extBlocks-(extLost[1]+1)
	gaps := int64(7 + 8 + 10 + 40)
	given := 8 + 10 + fatFree + 2*extFree // what was written; the first gap and the last were not
	from := func(n int64) int64 { return 512 * n }
	says(t, p, "dry", fmt.Sprintf("free %d %d %d volume 1 0 %d volume 0 10 0 volume 2 0 %d %d-%d %d-%d %d-%d %d-%d",
		512*(gaps+fatFree+2*extFree), 512*given, (given+7)/8, 512*fatFree, 1024*extFree,
		from(1), from(8), from(72-fatFree), from(80), from(90), from(100), from(260-2*extFree), from(300)))
	trees := []string{do(t, p, "tree 0"), do(t, p, "tree 2")}
	says(t, p, "snap s", "ok", "trim", "trimmed 0 0", "drop s", "ok", "trim", fmt.Sprint("trimmed ", (given+7)/8, " ", 512*given), "tree 0", trees[0], "tree 2", trees[1])
	if is := do(t, p, "dry"); is[:len("free 0")] == "free 0" {
		t.Error(is)
	}
}

// TestDiffer: nothing, one part, and more.
func TestDiffer(t *testing.T) {
	p := goes(t, "make 11 3584 60", "snap a")
	says(t, p, "differ a", "differ 0 ", "put 512 0", "ok", "differ a", "differ 0 ", "put 1023 1 1", "ok", "differ a", "differ 1024 512-1536",
		"put 3583 1", "ok", "differ a", "differ 1536 512-1536 3072-3584", "put 0 1", "ok", "differ a", "differ 2048 0-1536 3072-3584")
}

// TestResize: the last partition, of either kind, is of another size, and all paths are
// what they were; with an error nothing is changed.
func TestResize(t *testing.T) {
	_, _, _, fatLost, extLost := laidGuest()
	fatLeast, extLeast := 6+fatLost[1]-1, 2*(extLost[1]+1) // the last cluster, or block, in use is a lost one
	p := laid(t, mbrLine)
	seen := func() string { return do(t, p, "tree 0") + do(t, p, "lost 0") }
	all := func() string { return seen() + do(t, p, "tree 2") + do(t, p, "lost 2") + do(t, p, "odd 2") }
	was, parts := all(), "parts 1 4096-36864 40960-46080 51200-"
	for _, sectors := range []int64{200, 161, extLeast, extLeast + 1, 160} {
		says(t, p, fmt.Sprint("resize ", sectors), "ok", "parts", fmt.Sprint(parts, 51200+512*sectors))
		for _, l := range []string{"resize 201 4", "resize 0 18", "resize -1 18", fmt.Sprint("resize ", extLeast-1, " 18"), "resize 32769 4"} {
			order, e := l[:strings.LastIndex(l, " ")], l[strings.LastIndex(l, " "):]
			says(t, p, order, "error"+e, "parts", fmt.Sprint(parts, 51200+512*sectors))
		}
		if all() != was {
			t.Fatal(sectors, "something has changed")
		}
	}
	says(t, p, "mbr 12 8 64", "ok")
	was = seen()
	for _, sectors := range []int64{70, 64, fatLeast, 132} {
		says(t, p, fmt.Sprint("resize ", sectors), "ok", "parts", fmt.Sprint("parts 1 4096-", 4096+512*sectors), fmt.Sprint("resize ", fatLeast-1), "error 18", "resize 133", "error 20")
		if seen() != was {
			t.Fatal(sectors, "something has changed")
		}
	}
}
