package rawimage_test

import (
	"bytes"
	"strings"
	"testing"

	"fettle/rawimage"
)

// laid: an image with clusters of 512 bytes, laid by hand: a disk of 10 clusters
// in a file of at most 64 clusters, a journal of 28, so that First is 32. The top
// table is in 31; 32 is a table, whose third entry is 33; a snapshot has its top
// table in 34, with the same table.
func laid() []byte {
	b := make([]byte, 35*512)
	copy(b, "FETL")
	b[4], b[9], b[16], b[20] = 9, 20, 64, 28
	for n := range 32 {
		b[29*512+2*n] = 1
	}
	b[29*512+2*32], b[29*512+2*33], b[29*512+2*34] = 2, 1, 1
	b[30*512], b[30*512+16] = 'a', 34
	b[31*512+1] = 32
	b[32*512+17], b[32*512+23] = 33, 0x80
	b[32*512+24] = 1
	copy(b[33*512:], "held")
	b[34*512+1] = 32
	return b
}

func TestOf(t *testing.T) {
	x, fault := rawimage.Of(laid())
	if fault != "" || x.First != 32 || len(x.Refs) != 4 || len(x.Spots(32)) != 2 || len(x.Tops()) != 2 {
		t.Fatal(fault, x)
	}
	back := bytes.Repeat([]byte("b"), 1024)
	for _, top := range x.Tops() {
		d := x.Disk(top, back)
		if len(d) != 10*512 || string(d[:1028]) != string(back)+"held" || !bytes.Equal(d[1028:], make([]byte, 10*512-1028)) {
			t.Error("the disk by", top)
		}
	}
}

// What counts, and what doesn't: the journal, and what nothing refers to.
func TestEssence(t *testing.T) {
	of := func(b []byte) string {
		x, fault := rawimage.Of(b)
		if fault != "" {
			t.Fatal(fault)
		}
		return x.Essence()
	}
	want := of(laid())
	for _, c := range []struct {
		at   int
		same bool
	}{{511, false}, {512, true}, {29*512 - 1, true}, {29*512 + 300, false}, {30*512 + 5, false}, {33*512 + 9, false}, {35 * 512, true}} {
		b := append(laid(), make([]byte, 512)...)
		b[c.at] = 7
		if got := of(b); (got == want) != c.same {
			t.Errorf("byte %d: %v", c.at, !c.same)
		}
	}
}

func TestFaults(t *testing.T) {
	for _, c := range []struct {
		at   int
		v    byte
		part string
	}{
		{0, 'G', "no header"},
		{29*512 + 2*32, 1, "a count"},
		{29*512 + 2*40, 1, "a count"},
		{29 * 512, 2, "a count"},
		{29*512 + 2*34, 0, "a count"},
		{30*512 + 16, 31, "outside"},
		{30*512 + 16, 35, "outside"},
		{31*512 + 1, 31, "outside"},
		{31*512 + 1, 35, "outside"},
		{31 * 512, 1, "top table"},
		{31*512 + 9, 33, "top table"},
		{31*512 + 7, 0x80, "Own"},
		{32*512 + 17, 31, "outside"},
		{32*512 + 24, 2, "table's entry"},
		{32*512 + 80, 1, "table's entry"},
	} {
		b := laid()
		b[c.at] = c.v
		if _, fault := rawimage.Of(b); !strings.Contains(fault, c.part) {
			t.Errorf("byte %d is %d: %q", c.at, c.v, fault)
		}
	}
	if _, fault := rawimage.Of(laid()[:31*512]); !strings.Contains(fault, "short") {
		t.Error("a short file:", fault)
	}
}

func TestKeeps(t *testing.T) {
	for n := range 9 {
		seen := map[string]int{}
		for _, keep := range rawimage.Keeps(n) {
			if len(keep) != n {
				t.Fatal(n, keep)
			}
			text := ""
			for _, k := range keep {
				text += string("01"[map[bool]int{true: 1}[k]])
			}
			seen[text]++
		}
		if n <= 4 && len(seen) != 1<<n || n > 4 && len(seen) < 2*n+2 {
			t.Error(n, len(seen))
		}
	}
}
