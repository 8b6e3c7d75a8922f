package extdir_test

import (
	"bytes"
	"math/rand"
	"slices"
	"strings"
	"testing"

	"fettle/api"
	"fettle/extdir"
)

// rows: Rows' answer, held against the plain one; the bytes stay as they are, their
// spare room too, and the answer is memory of its own.
func rows(t *testing.T, what string, b []byte) ([]extdir.Row, api.Errno) {
	t.Helper()
	behind := pattern(64, 5)
	room := append(slices.Clone(b), behind...)
	in := room[:len(b)]
	want, e := namedByWords(b)
	list, got := extdir.Rows(in)
	if got != e || !slices.Equal(list, want) {
		t.Fatalf("%s: %+v %d, not %+v %d; of %x", what, list, got, want, e, b)
	}
	if !bytes.Equal(in, b) || !bytes.Equal(room[len(b):], behind) {
		t.Fatalf("%s: what was handed in is changed", what)
	}
	clear(room)
	if !slices.Equal(list, want) {
		t.Fatalf("%s: the answer hangs on what was handed in", what)
	}
	return list, e
}

// refuses: that Rows answers an error.
func refuses(t *testing.T, what string, b []byte, want api.Errno) {
	t.Helper()
	if list, e := rows(t, what, b); e != want || len(list) != 0 {
		t.Errorf("%s: %+v, error %d, not %d", what, list, e, want)
	}
}

// names: that bytes name just these.
func names(t *testing.T, what string, b []byte, want ...extdir.Row) {
	t.Helper()
	if list, e := rows(t, what, b); e != api.OK || !slices.Equal(list, want) {
		t.Errorf("%s: %+v, error %d, not %+v", what, list, e, want)
	}
}

func TestRows(t *testing.T) {
	names(t, "nothing", nil)
	names(t, "no bytes", []byte{})
	names(t, "one", row(12, entry{7, "a"}), extdir.Row{Name: "a", Node: 7})
	names(t, "one, by hand", []byte{1, 2, 3, 4, 16, 0, 5, 99, 'h', 'e', 'l', 'l', 'o', 1, 2, 3}, extdir.Row{Name: "hello", Node: 0x04030201})
	names(t, "more", slices.Concat(row(12, entry{7, "a"}), row(20, entry{1<<32 - 1, "a"}), row(1000, entry{8, "bcd"})),
		extdir.Row{Name: "a", Node: 7}, extdir.Row{Name: "a", Node: 1<<32 - 1}, extdir.Row{Name: "bcd", Node: 8})
	names(t, "aside", slices.Concat(row(12, entry{2, "."}), row(12, entry{2, ".."}), row(16, entry{0, "gone"}), row(8, entry{0, ""}), row(12, entry{0, "."}), row(12, entry{9, "..."}), row(12, entry{9, ". "}), row(12, entry{9, ".a"})),
		extdir.Row{Name: "...", Node: 9}, extdir.Row{Name: ". ", Node: 9}, extdir.Row{Name: ".a", Node: 9})
	names(t, "any bytes in a name", row(16, entry{5, "a/\x00\xFF\n"}), extdir.Row{Name: "a/\x00\xFF\n", Node: 5})
	names(t, "the longest name", row(264, entry{5, strings.Repeat("x", 255)}), extdir.Row{Name: strings.Repeat("x", 255), Node: 5})
	names(t, "a long row", row(65532, entry{5, "x"}), extdir.Row{Name: "x", Node: 5})
	names(t, "a block of noughts at its end", packed(entry{5, "x"}, entry{0, ""}), extdir.Row{Name: "x", Node: 5})
	refuses(t, "noughts", make([]byte, 1024), api.ErrForm)
	refuses(t, "an empty name", row(8, entry{3, ""}), api.ErrName)
	refuses(t, "an empty name, with room", row(1024, entry{3, ""}), api.ErrName)
	refuses(t, "an empty name behind others", slices.Concat(row(12, entry{3, "a"}), row(12, entry{0, "b"}), row(8, entry{3, ""})), api.ErrName)
}

// TestRowLengths: a row of any length, with a name of any length, in any room.
func TestRowLengths(t *testing.T) {
	for long := range 20 {
		for size := range 60 {
			for room := range 60 {
				b := bytes.Repeat([]byte{byte(size + room)}, room)
				if room >= 8 {
					put32(b, 0, 9)
					put16(b, 4, int64(size))
					b[6] = byte(long)
				}
				_, e := rows(t, "a row", b[:min(room, max(size, 8))])
				want := api.OK
				switch {
				case room == 0:
				case room < 8 || size%4 != 0 || size < 8+long || size > room:
					want = api.ErrForm
				case long == 0:
					want = api.ErrName
				}
				if e != want {
					t.Fatalf("%d of %d bytes, a name of %d: %d, not %d", size, room, long, e, want)
				}
				rows(t, "a row, and what is behind it", b)
			}
		}
	}
	for _, size := range []int64{1 << 15, 65532, 65535} {
		b := row(1024, entry{4, "x"})
		put16(b, 4, size)
		refuses(t, "more than are left", b, api.ErrForm)
	}
	long := row(264, entry{5, strings.Repeat("x", 255)})
	put16(long, 4, 260)
	refuses(t, "fewer than the longest name", long, api.ErrForm)
}

// TestRowsLeft: what is behind the last row that has room.
func TestRowsLeft(t *testing.T) {
	for n := range 20 {
		b := append(row(12, entry{4, "x"}), make([]byte, n)...)
		want := api.ErrForm
		if n == 0 {
			want = api.OK
		}
		if _, e := rows(t, "noughts behind", b); e != want {
			t.Errorf("%d behind: %d, not %d", n, e, want)
		}
	}
	b := slices.Concat(row(12, entry{4, "x"}), row(8, entry{0, ""}))
	names(t, "eight bytes", b, extdir.Row{Name: "x", Node: 4})
	for n := 13; n < 20; n++ {
		refuses(t, "fewer than eight", b[:n], api.ErrForm)
	}
}

// TestRowsFirst: of two things that are wrong the one that is met first is told.
func TestRowsFirst(t *testing.T) {
	short := make([]byte, 4)
	odd := row(16, entry{3, "x"})
	put16(odd, 4, 14)
	empty := row(12, entry{3, ""})
	refuses(t, "a name, then too few bytes", slices.Concat(empty, short), api.ErrName)
	refuses(t, "a name, then a length", slices.Concat(empty, odd), api.ErrName)
	refuses(t, "a length, then a name", slices.Concat(odd, empty), api.ErrForm)
	both := row(16, entry{3, ""})
	put16(both, 4, 10)
	refuses(t, "a length and a name", both, api.ErrForm)
	gone := row(16, entry{0, "x"})
	put16(gone, 4, 6)
	refuses(t, "a length of a row of nothing", gone, api.ErrForm)
	dot := row(16, entry{2, "."})
	put16(dot, 4, 20)
	refuses(t, "a length of a dot", dot, api.ErrForm)
}

func TestRowsAny(t *testing.T) {
	r := rand.New(rand.NewSource(1))
	met := map[api.Errno]int{}
	for range 20000 {
		var b []byte
		for range r.Intn(6) {
			x := entry{r.Int63n(4), []string{".", "..", "", "a", "bc", "name", "longer name"}[r.Intn(7)]}
			if x.name == "" && r.Intn(4) > 0 {
				x.node = 0
			}
			b = append(b, row(need(x)+4*r.Intn(3), x)...)
		}
		if len(b) > 0 && r.Intn(3) == 0 {
			b[r.Intn(len(b))] = byte(r.Intn(20))
		}
		if r.Intn(9) == 0 {
			b = b[:r.Intn(len(b)+1)]
		}
		_, e := rows(t, "any", b)
		met[e]++
	}
	for i := range 3000 {
		rows(t, "any bytes", pattern(r.Intn(40), int64(i)))
	}
	if met[api.OK] < 5000 || met[api.ErrForm] < 1000 || met[api.ErrName] < 500 {
		t.Error(met)
	}
}
