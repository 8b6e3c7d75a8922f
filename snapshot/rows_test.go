package snapshot_test

import (
	"bytes"
	"encoding/binary"
	"math"
	"slices"
	"strings"
	"testing"

	"fettle/api"
	"fettle/image"
	"fettle/snapshot"
)

// The signatures that the document lists.
var (
	_ func(string) bool                                   = snapshot.IsName
	_ func(snapshot.Snap) ([]byte, api.Errno)             = snapshot.Row
	_ func([]byte) ([]snapshot.Snap, api.Errno)           = snapshot.Parse
	_ func(*image.Image) ([]snapshot.Snap, api.Errno)     = snapshot.List
	_ func(*image.Image, string) api.Errno                = snapshot.Create
	_ func(*image.Image, string) api.Errno                = snapshot.Delete
	_ func(*image.Image, string) api.Errno                = snapshot.Back
	_ func(*image.Image) api.Errno                        = snapshot.Alone
	_ func(*image.Image, string) (*image.View, api.Errno) = snapshot.View
)

const letters = "abcdefghijklmnopqrstuvwxyz0123456789_-"

func TestIsName(t *testing.T) {
	for c := range 256 {
		want := strings.IndexByte(letters, byte(c)) >= 0
		for _, s := range []string{string([]byte{byte(c)}), string([]byte{'a', byte(c)}), string([]byte{byte(c), '9'}), "abcdefgh" + string([]byte{byte(c)}) + "1234567"} {
			if snapshot.IsName(s) != want {
				t.Errorf("IsName(%q) = %v", s, !want)
			}
		}
	}
	for n := range 40 {
		for _, c := range []string{"a", "z", "0", "9", "_", "-"} {
			if got := snapshot.IsName(strings.Repeat(c, n)); got != (n >= 1 && n <= 16) {
				t.Errorf("IsName of %d letters %s = %v", n, c, got)
			}
		}
	}
	for _, s := range []string{"", "é", "aé", "ａ", "日本", "a\x00", "\x00", "a b", "A", "a.b", "a\xff", "\xed\xa0\x80", "\U0001d7d8", strings.Repeat("a", 1<<20)} {
		if snapshot.IsName(s) {
			t.Errorf("IsName(%.20q)", s)
		}
	}
}

// laid: a row in the document's words.
func laid(name string, cluster, id uint64) []byte {
	b := make([]byte, 32)
	copy(b[:16], name)
	binary.LittleEndian.PutUint64(b[16:], cluster)
	binary.LittleEndian.PutUint64(b[24:], id)
	return b
}

func TestRow(t *testing.T) {
	names := []string{"a", "_", "-", "snap-1", "0123456789abcdef", strings.Repeat("z", 15)}
	for _, name := range names {
		for _, cluster := range []int64{1, 2, 33, 34, 255, 256, 4096, 8190, 8191} {
			for _, id := range []uint64{0, 1, 2, 255, 256, math.MaxInt64, math.MaxInt64 + 1, math.MaxUint64} {
				for _, slot := range []int{0, 7, 8, -1, math.MinInt, math.MaxInt} {
					s := snapshot.Snap{Slot: slot, Name: name, Cluster: cluster, Id: id}
					if b, e := snapshot.Row(s); e != api.OK || !bytes.Equal(b, laid(name, uint64(cluster), id)) {
						t.Fatalf("Row(%+v) = %v, %d", s, b, e)
					}
				}
			}
		}
	}
	for _, slot := range []int{0, 1, 7, 8, -1, math.MinInt, math.MaxInt} {
		if b, e := snapshot.Row(snapshot.Snap{Slot: slot}); e != api.OK || !bytes.Equal(b, make([]byte, 32)) {
			t.Errorf("the row of none: %v, %d", b, e)
		}
	}
	for _, c := range []struct {
		s    snapshot.Snap
		want api.Errno
	}{
		{snapshot.Snap{Cluster: 34}, api.ErrName},
		{snapshot.Snap{Id: 1}, api.ErrName},
		{snapshot.Snap{Cluster: -1}, api.ErrName},
		{snapshot.Snap{Name: "A", Cluster: 34}, api.ErrName},
		{snapshot.Snap{Name: "a\x00", Cluster: 34}, api.ErrName},
		{snapshot.Snap{Name: "0123456789abcdefg", Cluster: 34, Id: 1}, api.ErrName},
		{snapshot.Snap{Name: " ", Cluster: 0}, api.ErrName},
		{snapshot.Snap{Name: "a"}, api.ErrForm},
		{snapshot.Snap{Name: "a", Id: 4}, api.ErrForm},
		{snapshot.Snap{Name: "a", Cluster: -1}, api.ErrForm},
		{snapshot.Snap{Name: "a", Cluster: 8192}, api.ErrForm},
		{snapshot.Snap{Name: "a", Cluster: math.MinInt64}, api.ErrForm},
		{snapshot.Snap{Name: "a", Cluster: math.MaxInt64}, api.ErrForm},
		{snapshot.Snap{Name: "a", Cluster: math.MinInt64 + 34}, api.ErrForm},
	} {
		if b, e := snapshot.Row(c.s); len(b) != 0 || e != c.want {
			t.Errorf("Row(%+v) = %v, %d, not %d", c.s, b, e, c.want)
		}
	}
}

// rows: eight rows, by their slots, and so many noughts behind them.
func rows(behind int, list map[int][]byte) []byte {
	b := make([]byte, 256+behind)
	for slot, row := range list {
		copy(b[32*slot:], row)
	}
	return b
}

func TestParse(t *testing.T) {
	for _, behind := range []int{0, 1, 256, 768, 3840} {
		if l, e := snapshot.Parse(rows(behind, nil)); len(l) != 0 || e != api.OK {
			t.Error("noughts", l, e)
		}
		// Each choice of slots.
		for set := range 256 {
			list, want := map[int][]byte{}, []snapshot.Snap(nil)
			for slot := range 8 {
				if set>>slot&1 == 1 {
					s := snapshot.Snap{Slot: slot, Name: "s" + letters[slot:slot+1+slot], Cluster: int64(8191 - slot*1000), Id: uint64(slot) << 60}
					list[slot] = laid(s.Name, uint64(s.Cluster), s.Id)
					want = append(want, s)
				}
			}
			if l, e := snapshot.Parse(rows(behind, list)); e != api.OK || !slices.Equal(l, want) {
				t.Fatalf("Parse = %+v, %d, not %+v", l, e, want)
			}
		}
	}
}

func TestParseErrors(t *testing.T) {
	a, b := laid("a", 34, 1), laid("b", 35, 2)
	for _, c := range []struct {
		what string
		b    []byte
		want api.Errno
	}{
		{"nothing", nil, api.ErrRange},
		{"one row", a, api.ErrRange},
		{"a byte less", rows(0, nil)[:255], api.ErrRange},
		{"a byte less, with rows", rows(0, map[int][]byte{0: a, 3: b})[:255], api.ErrRange},
		{"no name", rows(0, map[int][]byte{2: laid("", 34, 1)}), api.ErrName},
		{"a number alone", rows(0, map[int][]byte{2: laid("", 0, 1)}), api.ErrName},
		{"a letter that is none", rows(0, map[int][]byte{2: laid("aB", 34, 1)}), api.ErrName},
		{"not noughts behind it", rows(0, map[int][]byte{2: laid("a\x00b", 34, 1)}), api.ErrName},
		{"a last byte behind it", rows(0, map[int][]byte{2: laid("a\x00\x00\x00\x00\x00\x00\x00\x00\x00\x00\x00\x00\x00\x00\x01", 34, 1)}), api.ErrName},
		{"a nought ahead", rows(0, map[int][]byte{2: laid("\x00a", 34, 1)}), api.ErrName},
		{"no cluster", rows(0, map[int][]byte{2: laid("a", 0, 1)}), api.ErrForm},
		{"a cluster beyond", rows(0, map[int][]byte{2: laid("a", 8192, 1)}), api.ErrForm},
		{"a cluster far beyond", rows(0, map[int][]byte{2: laid("a", 1<<63+34, 1)}), api.ErrForm},
		{"the greatest cluster", rows(0, map[int][]byte{2: laid("a", math.MaxUint64, 1)}), api.ErrForm},
		{"a name twice", rows(0, map[int][]byte{2: a, 7: laid("a", 40, 3)}), api.ErrTwice},
		{"a byte behind", append(rows(0, map[int][]byte{2: a}), 1), api.ErrForm},
		{"a byte far behind", append(rows(700, nil), 0x80), api.ErrForm},
		{"a ninth row", rows(256, map[int][]byte{8: a}), api.ErrForm},

		{"the name ahead of the cluster", rows(0, map[int][]byte{2: laid("A", 0, 1)}), api.ErrName},
		{"the cluster ahead of its being twice", rows(0, map[int][]byte{2: a, 3: laid("a", 0, 1)}), api.ErrForm},
		{"the first row ahead of the second", rows(0, map[int][]byte{0: laid("a", 0, 1), 1: laid("A", 34, 1)}), api.ErrForm},
		{"twice ahead of a later row", rows(0, map[int][]byte{0: a, 1: a, 2: laid("A", 34, 1)}), api.ErrTwice},
		{"a row ahead of one that isn't there", laid("A", 34, 1), api.ErrName},
		{"a row that isn't there ahead of twice", rows(0, map[int][]byte{0: a, 1: a})[:63], api.ErrRange},
		{"a row ahead of a byte behind", append(rows(0, map[int][]byte{7: laid("A", 34, 1)}), 1), api.ErrName},
	} {
		if l, e := snapshot.Parse(c.b); len(l) != 0 || e != c.want {
			t.Errorf("%s: %v, %d, not %d", c.what, l, e, c.want)
		}
	}
}

// One byte of right rows is another: they are told, or they are just what is parsed.
func TestEachByte(t *testing.T) {
	good := rows(256, map[int][]byte{0: laid("first", 34, 1), 4: laid("0123456789abcdef", 8191, math.MaxUint64), 7: laid("z", 256, 9)})
	for at := range good {
		for v := range 256 {
			b := slices.Clone(good)
			b[at] = byte(v)
			l, e := snapshot.Parse(b)
			if e != api.OK {
				if len(l) != 0 {
					t.Fatal(at, v, "something beside an error")
				}
				continue
			}
			list := map[int][]byte{}
			for _, s := range l {
				row, e := snapshot.Row(s)
				if e != api.OK {
					t.Fatal(at, v, e)
				}
				list[s.Slot] = row
			}
			if !bytes.Equal(rows(256, list), b) {
				t.Fatalf("byte %d is %d: the rows of %+v are others", at, v, l)
			}
		}
	}
}

func FuzzParse(f *testing.F) {
	f.Add(rows(0, map[int][]byte{0: laid("a", 34, 1), 7: laid("b", 35, 2)}))
	f.Add([]byte("short"))
	f.Fuzz(func(t *testing.T, b []byte) {
		kept := slices.Clone(b)
		l, e := snapshot.Parse(b)
		if !bytes.Equal(b, kept) {
			t.Error("the bytes have changed")
		}
		if e != api.OK {
			if len(l) != 0 {
				t.Error("something beside an error")
			}
			return
		}
		list := map[int][]byte{}
		for _, s := range l {
			list[s.Slot], _ = snapshot.Row(s)
		}
		if !bytes.Equal(rows(len(b)-256, list), b) {
			t.Errorf("the rows of %+v are others", l)
		}
	})
}
