package console_test

import (
	"fmt"
	"slices"
	"strings"
	"testing"

	"fettle/api"
	"fettle/console"
	"fettle/fat"
	"fettle/gpt"
	"fettle/mbr"
)

// TestExample: the chapter's.
func TestExample(t *testing.T) {
	want := []string{"ok", "bytes 512 2997515640 512"}
	if l := console.Run("make 9 65536 400\nget 0 512"); !slices.Equal(l, want) {
		t.Error(l)
	}
}

// TestNoPlayer: a nil player answers ErrNil, whatever it is asked for.
func TestNoPlayer(t *testing.T) {
	var p *console.Player
	for _, f := range forms() {
		if is := p.Do(f.order(f.least)); is != "error 2" {
			t.Error(f.word, is)
		}
	}
	for _, o := range []console.Order{{}, {Word: "bogus"}, {Word: "get"}} {
		if is := p.Do(o); is != "error 2" {
			t.Error(o.Word, is)
		}
	}
}

// TestNoTool: without a tool all but make and recover answer ErrState; recover has nothing
// to open.
func TestNoTool(t *testing.T) {
	p := &console.Player{}
	for _, f := range forms() {
		switch f.word {
		case "make":
		case "recover":
			says(t, p, "recover", "error 4")
		default:
			says(t, p, f.order(f.least).Show(), "error 6", f.order(f.most).Show(), "error 6")
		}
	}
	for word, want := range map[string]string{"": "error 6", "bogus": "error 6", "get": "error 6", "make": "error 1"} {
		if is := p.Do(console.Order{Word: word}); is != want {
			t.Error(word, is)
		}
	}
	says(t, p, "make 9 65536 400 1", "error 11", "list", "error 6", "recover", "error 4", "make 9 65536 400", "ok", "list", "snapshots 0")
}

// TestNoOrder: what Parse doesn't make is answered as Parse tells it.
func TestNoOrder(t *testing.T) {
	p := goes(t, "make 9 65536 400")
	for _, o := range []console.Order{{}, {Word: "bogus"}, {Word: "GET", Nums: []int64{0, 1}}, {Word: "pull"}} {
		if is := p.Do(o); is != "error 16" {
			t.Error(o, is)
		}
	}
	for _, f := range forms() {
		name := f.order(f.least)
		name.Name = "a"
		if f.named {
			name.Name = ""
		}
		list := []console.Order{f.order(f.most + 1), name}
		if f.least > 0 {
			list = append(list, f.order(f.least-1))
		}
		for _, o := range list {
			if is := p.Do(o); is != "error 1" {
				t.Error(o, is)
			}
		}
	}
	says(t, p, "list", "snapshots 0", "check", "clusters 34 0")
}

// TestMake: with a journal and without, numbers at their bounds and beyond.
func TestMake(t *testing.T) {
	// Of clusters of 512 bytes, 400 in the file: the header, 29 of the journal at least,
	// 2 of the counts, the rows, the top table.
	for _, c := range []struct{ line, check, length string }{
		{"make 9 65536 400", "clusters 34 0", "length 17408"},
		{"make 9 65536 400 29", "clusters 34 0", "length 17408"},
		{"make 9 65536 400 100", "clusters 105 0", "length 53760"},
		{"make 9 512 34 28", "clusters 32 0", "length 16384"}, // one cluster of counts: a smaller journal will do
		{"make 12 16777216 1024", "clusters 25 0", "length 102400"},
	} {
		p := &console.Player{}
		says(t, p, c.line, "ok", "check", c.check, "length", c.length, "list", "snapshots 0")
	}
	p := goes(t, "make 9 65536 400", "put 0 7", "snap a")
	for _, c := range [][2]string{
		{"make 8 65536 400", "11"}, {"make 13 65536 400", "11"}, {"make -1 65536 400", "11"}, {"make 0 65536 400", "11"}, {"make 99 65536 400", "11"},
		{"make 1099511627776 65536 400", "11"}, {"make -1099511627776 65536 400", "11"}, {"make 4294967305 65536 400", "11"}, // 2^32 + 9
		{"make 9 0 400", "11"}, {"make 9 513 400", "11"}, {"make 9 -512 400", "11"}, {"make 9 1099511627776 400", "11"}, {"make 12 16777728 400", "11"},
		{"make 9 2097664 8192", "20"}, {"make 9 65536 0", "20"}, {"make 9 65536 -1", "20"}, {"make 9 65536 8193", "20"}, {"make 10 65536 4097", "20"}, {"make 9 65536 1099511627776", "20"},
		{"make 9 65536 400 28", "11"}, {"make 9 65536 400 -1", "11"}, {"make 9 65536 400 0", "11"}, {"make 9 65536 400 396", "11"}, {"make 9 65536 400 8193", "11"}, {"make 9 65536 31", "11"},
	} {
		says(t, p, c[0], "error "+c[1], "list", "snapshots 1 a", "get 0 1", told([]byte{7})) // the one that was there stays
	}
	says(t, p, "make 9 2097152 8192", "ok", "list", "snapshots 0", "get 0 1", told([]byte{0}))
}

// TestContent: bytes at the disk's ends, and beyond; how many of the first are 0.
func TestContent(t *testing.T) {
	p := goes(t, "make 10 66048 300") // the last cluster is half a one
	d := make([]byte, 66048)
	shows(t, p, d)
	for _, c := range []struct {
		at   int
		nums []int
	}{{0, []int{1}}, {66047, []int{2}}, {1023, []int{0, 0, 255, 256, -1, 300, -300, 1 << 40}}, {5000, nil}, {66048, nil}, {40000, []int{1<<40 - 1}}} {
		line := fmt.Sprint("put ", c.at)
		for i, n := range c.nums {
			line += fmt.Sprint(" ", n)
			d[c.at+i] = byte(n)
		}
		says(t, p, line, "ok")
		shows(t, p, d)
	}
	says(t, p, "put", "ok", "put 66048 1", "error 4", "put 66047 1 2", "error 4", "put -1 1", "error 4", "put -1", "error 4", "put 1099511627776 1", "error 4", "put -1099511627776", "error 4")
	shows(t, p, d)
	for _, c := range [][2]int{{0, 0}, {0, 1}, {1, 1023}, {1000, 30}, {1023, 4}, {1025, 1}, {66047, 1}, {66048, 0}, {60000, 6048}} {
		says(t, p, fmt.Sprint("get ", c[0], " ", c[1]), told(d[c[0]:c[0]+c[1]]))
	}
	for _, l := range []string{"get 66048 1", "get 66049 0", "get 0 66049", "get -1 1", "get 0 -1", "get -1 0", "get 1099511627776 0", "get 0 1099511627776", "get 1099511627776 -1099511627776"} {
		says(t, p, l, "error 4")
	}
	p.Do(console.Order{Word: "put", Nums: []int64{-1 << 63, 1}})
	if is := p.Do(console.Order{Word: "get", Nums: []int64{1<<63 - 1, 1<<63 - 1}}); is != "error 4" {
		t.Error(is)
	}
}

// TestSnapshots: those that are there, and those that are not.
func TestSnapshots(t *testing.T) {
	p := goes(t, "make 9 65536 400")
	for _, l := range []string{"see a 0 1", "drop a", "back a", "differ a", "see A 0 1", "drop A", "back -", "differ name-of-17-bytes-"} {
		says(t, p, l, "error 22")
	}
	for _, l := range []string{"snap A", "snap name-of-17-bytes-", "snap é"} {
		says(t, p, l, "error 16")
	}
	says(t, p,
		"snap name-of-16_bytes", "ok", "put 700 65", "ok", "snap b", "ok", "put 700 66", "ok", "put 2000 1", "ok",
		"list", "snapshots 2 name-of-16_bytes b", "snap b", "error 17",
		"see name-of-16_bytes 700 1", told([]byte{0}), "see b 700 1", told([]byte{65}), "get 700 1", told([]byte{66}),
		"see b 65535 1", told([]byte{0}), "see b 65535 2", "error 4", "see b -1 1", "error 4", "see b 0 -1", "error 4",
		"differ name-of-16_bytes", "differ 1024 512-1024 1536-2048", "differ b", "differ 1024 512-1024 1536-2048",
		"back b", "ok", "get 700 1", told([]byte{65}), "differ b", "differ 0 ", "differ name-of-16_bytes", "differ 512 512-1024",
		"drop name-of-16_bytes", "ok", "list", "snapshots 1 b", "see name-of-16_bytes 0 1", "error 22", "get 700 1", told([]byte{65}))
	for i := range 7 {
		says(t, p, fmt.Sprint("snap ", i), "ok")
	}
	says(t, p, "list", "snapshots 8 0 b 1 2 3 4 5 6", "snap x", "error 15", "drop 3", "ok", "snap x", "ok", "list", "snapshots 8 0 b 1 2 x 4 5 6") // by slot
}

// TestMbr: of few and of many entries, and of numbers that are no three.
func TestMbr(t *testing.T) {
	for _, c := range []struct {
		nums string
		list []mbr.Entry
	}{
		{"", nil},
		{"12", nil},
		{"12 8", nil},
		{"12 8 40", []mbr.Entry{{Type: 12, First: 8, Count: 40}}},
		{"12 8 40 7 60", []mbr.Entry{{Type: 12, First: 8, Count: 40}}},
		{"12 8 40 7 60 9 7 1 1 -1 4294967295 4294967295", []mbr.Entry{{Type: 12, First: 8, Count: 40}, {Type: 7, First: 60, Count: 9}, {Type: 7, First: 1, Count: 1}, {Type: 255, First: 1<<32 - 1, Count: 1<<32 - 1}}},
		{"268 8 40 1099511627776 1 2 -244 3 4", []mbr.Entry{{Type: 12, First: 8, Count: 40}, {Type: 0, First: 1, Count: 2}, {Type: 12, First: 3, Count: 4}}},
	} {
		p := goes(t, "make 9 65536 400", "put 510 1 1 1", "put 0 9")
		want, e := mbr.Make(c.list...)
		if e != api.OK {
			t.Fatal(e)
		}
		says(t, p, "mbr "+c.nums, "ok", "get 0 513", told(append(want, 1)))
	}
	p := goes(t, "make 9 65536 400", "mbr 12 8 40 7 50 9")
	for _, l := range []string{"mbr 12 -1 40", "mbr 12 8 -1", "mbr 12 4294967296 40", "mbr 12 8 4294967296", "mbr 12 8 40 12 60 10 12 80 10 12 90 1099511627776"} {
		says(t, p, l, "error 20", "parts", "parts 1 4096-24576 25600-30208")
	}
	says(t, p, "mbr 12 8 40 12 47 9", "ok", "parts", "error 14", "mbr 12 0 8", "ok", "parts", "error 4", "mbr 12 8 121", "ok", "parts", "error 4", "mbr", "ok", "parts", "parts 1",
		"put 511 0", "ok", "parts", "error 10")
}

// gptDisk: a disk of so many sectors with a table, by the chapter's words.
func gptDisk(t *testing.T, sectors int64, places ...int64) []byte {
	t.Helper()
	d := make([]byte, 512*sectors)
	g := gpt.Table{Sectors: sectors, First: 3, Last: sectors - 3, At: 2, Behind: sectors - 2}
	for i, name := range []byte{1, 3, 5, 7} {
		x := gpt.Entry{}
		if 2*i+1 < len(places) {
			x.Ids[0], x.Ids[16] = 1, name
			x.First, x.Last = places[2*i], places[2*i+1]
		}
		g.List = append(g.List, x)
	}
	l, e := g.Encode()
	if e != api.OK {
		t.Fatal(e)
	}
	for _, p := range l {
		copy(d[p.At:], p.B)
	}
	first, e := mbr.Make(mbr.Entry{Type: 0xEE, First: 1, Count: sectors - 1})
	if e != api.OK {
		t.Fatal(e)
	}
	copy(d, first)
	return d
}

// TestGpt: of few and of many entries, and of a number that is no two.
func TestGpt(t *testing.T) {
	for _, c := range []struct {
		nums, parts string
	}{
		{"", ""}, {"10", ""}, {"10 20", " 5120-10752"}, {"10 20 30", " 5120-10752"}, {"3 125", " 1536-64512"},
		{"100 110 10 20 30 30 3 9", " 1536-5120 5120-10752 15360-15872 51200-56832"},
	} {
		p := goes(t, "make 9 65536 400")
		var places []int64
		for _, w := range strings.Fields(c.nums) {
			var n int64
			fmt.Sscan(w, &n)
			places = append(places, n)
		}
		says(t, p, "gpt "+c.nums, "ok", "parts", "parts 2"+c.parts, "mend", "mended 0")
		want := gptDisk(t, 128, places...)
		shows(t, p, want)
		for _, at := range []int{600, 64512, 65100} { // the first header, the second entries, the second header
			says(t, p, fmt.Sprint("put ", at, " ", want[at]^1), "ok", "parts", "error 12", "mend", "mended 4", "parts", "parts 2"+c.parts)
		}
		shows(t, p, want)
	}
	p := goes(t, "make 9 65536 400", "put 0 1 2 3")
	for _, c := range [][2]string{
		{"gpt 2 9", "4"}, {"gpt 3 126", "4"}, {"gpt 20 19", "4"}, {"gpt -1 20", "4"}, {"gpt 0 0", "4"}, {"gpt 10 1099511627776", "4"}, {"gpt 10 20 20 30", "14"}, {"gpt 10 20 30 40 3 50", "14"},
	} {
		says(t, p, c[0], "error "+c[1], "get 0 4", told([]byte{1, 2, 3, 0}), "parts", "error 10")
	}
	for sectors, want := range map[int]string{1: "error 11", 5: "error 11", 6: "ok", 7: "ok"} {
		p := goes(t, fmt.Sprint("make 9 ", 512*sectors, " 400"))
		says(t, p, "gpt", want)
		if want == "ok" {
			says(t, p, "parts", "parts 2", "gpt 3 3", "ok", "parts", "parts 2 1536-2048")
		}
	}
}

// TestVolumes: fat and ext at places that fit and that don't.
func TestVolumes(t *testing.T) {
	p := goes(t, "make 12 16777216 1024")
	says(t, p,
		"fat 32768 16 1", "error 4", "fat 32769 16 1", "error 4", "fat 32753 16 1", "error 4", "fat 32752 16 1", "ok",
		"fat -1 16 1", "error 4", "fat 1099511627776 16 1", "error 4", "fat -1099511627776 16 1", "error 4", "fat 1 32768 8", "error 4",
		"fat 0 15 1", "error 4", "fat 0 32769 1", "error 4", "fat 0 16 0", "error 4", "fat 0 16 9", "error 4", "fat 0 16 3", "error 11", "fat 0 16 -1", "error 4", "fat 0 1099511627776 1", "error 4",
		"fat 40000 16 3", "error 11", // it isn't made
		"ext 32751 9 64 16", "error 4", "ext 32750 9 64 16", "ok", "ext -1 9 64 16", "error 4", "ext 32769 9 64 16", "error 4",
		"ext 0 7 64 16", "error 4", "ext 0 16385 8192 16", "error 4", "ext 0 64 56 16", "error 4", "ext 0 64 64 8", "error 4", "ext 0 64 66 16", "error 11", "ext 0 64 64 17", "error 11",
		"ext 0 64 64 480", "error 11", "ext 0 7000 64 16", "error 20", "ext 0 70 64 16", "error 18", "ext 0 64 1099511627776 16", "error 4", "ext 40000 70 64 16", "error 18",
		"get 0 16768000", told(make([]byte, 16768000)), "mbr 7 32750 18", "ok", "tree 0", `tree 2 1 "" 1024 0`)
	for _, at := range []int64{1 << 55, -1 << 55, 1<<55 + 1, -1 << 63, 1<<63 - 1} { // the sector's place would wrap round
		for _, o := range []console.Order{{Word: "fat", Nums: []int64{at, 16, 1}}, {Word: "ext", Nums: []int64{at, 9, 64, 16}}} {
			if is := p.Do(o); is != "error 4" {
				t.Error(o, is)
			}
		}
	}
	p = goes(t, "make 9 65536 400", "fat 0 128 1") // the whole disk
	says(t, p, "fat 1 128 1", "error 4", "fat 1 127 1", "ok", "mbr 12 1 127", "ok", "tree 0", `tree 1 1 "" 512 0`, "ext 1 63 64 16", "ok", "tree 0", `tree 2 1 "" 1024 0`)
}

// TestHalfWritten: each 4096 bytes of a volume are a Write: what was written ahead of an
// error stays.
func TestHalfWritten(t *testing.T) {
	t.Parallel()
	p := goes(t, "make 9 65536 60") // the file has 28 clusters more: a table, three writes of eight, three
	volume, e := fat.Make(128, 1)
	if e != api.OK {
		t.Fatal(e)
	}
	d := make([]byte, 65536)
	says(t, p, "fat 0 128 1", "error 15", "check", "clusters 57 25", "snap a", "ok", "snap b", "ok", "snap c", "ok", "snap d", "error 15")
	shows(t, p, slices.Concat(volume[:3*4096], d[3*4096:]))
	whole := goes(t, "make 9 65536 400", "put 65000 1")
	ops := whole.Tool().Ops()
	says(t, whole, "fat 1 128 1", "error 4", "fat 1 127 1", "ok")
	volume, _ = fat.Make(127, 1)
	d = make([]byte, 65536)
	d[65000] = 1
	met := map[int]int{}
	for n := range whole.Tool().Ops() - ops {
		p := goes(t, "make 9 65536 400", "put 65000 1", fmt.Sprint("refuse ", n+1))
		says(t, p, "fat 1 127 1", "error 5", "check", "error 6", "recover", "ok")
		var used, refs int
		fmt.Sscanf(do(t, p, "check"), "clusters %d %d", &used, &refs)
		writes := (used - 36 + 6) / 8 // the first makes a table, too; the last has six clusters, as one is there
		met[writes]++
		if want := 37 + min(8*writes, 126); used != want && used != 36 {
			t.Fatal(n, "half a write:", used)
		}
		copy(d[512:], volume[:min(4096*writes, len(volume))])
		shows(t, p, d)
	}
	if len(met) != 17 {
		t.Error("not all were met:", met)
	}
}

// TestGiveBack: what dry tells trim does; then squeeze, compact and resize.
func TestGiveBack(t *testing.T) {
	p := goes(t, "make 10 153600 400")
	says(t, p,
		"dry", "error 10", "trim", "error 10", "squeeze", "squeezed 0", "mend", "error 10", "resize 5", "error 10",
		"mbr 12 10 120", "ok", "fat 10 120 1", "ok", "resize 0", "error 18", "resize 291", "error 4", "resize 1099511627776", "error 4", "resize -1099511627776", "error 18",
		// The volume's clusters from sector 17 on are free; so is what is ahead of it and
		// behind. Those of the image that lie in that whole: 56 were written.
		"dry", "free 149504 57344 7 volume 1 0 57856 1024-5120 9216-153600",
		"check", "clusters 90 62", "trim", "trimmed 7 57344", "check", "clusters 34 6", "trim", "trimmed 0 0",
		"dry", "free 149504 0 0 volume 1 0 57856 1024-5120 9216-153600",
		"put 100000 0 0", "ok", "put 101376 1", "ok", "squeeze", "squeezed 2", "squeeze", "squeezed 0", "compact", "moved 1", "length", "length 34816", "compact", "moved 0",
		"resize 100", "ok", "parts", "parts 1 5120-56320", "tree 0", `tree 1 1 "" 512 0`, "resize 290", "error 20", "resize 132", "ok", "parts", "parts 1 5120-72704", "resize 133", "error 20")
	p = goes(t, "make 9 65536 400", "mbr 7 1 127")
	says(t, p, "dry", "free 0 0 0 volume 0 10 0 ", "trim", "trimmed 0 0", "resize 9", "error 10")
	p = goes(t, "make 9 65536 400", "mbr")
	says(t, p, "dry", "free 65024 0 0 512-65536", "resize 9", "error 22", "tree 0", "error 22", "lost 0", "error 22", "odd 0", "error 22", "tree -1", "error 22", "tree 1099511627776", "error 22")
	p = goes(t, "make 12 65536 40", "gpt 4 9 20 30")
	says(t, p, "dry", "free 54272 0 0 volume 0 10 0 volume 0 10 0 16384-61440")
}
