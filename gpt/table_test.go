package gpt_test

import (
	"math"
	"math/rand"
	"slices"
	"testing"

	"fettle/api"
	"fettle/gpt"
)

func TestConstants(t *testing.T) {
	if gpt.HeadSize != 92 || gpt.EntrySize != 128 || gpt.MaxEntries != 128 {
		t.Error("other constants")
	}
}

func TestExample(t *testing.T) {
	g := gpt.Table{Sectors: 64, At: 2, First: 3, Last: 61, Behind: 62, List: make([]gpt.Entry, 4)}
	ok(t, g.Check())
	want := []api.Ext{{From: 512, To: 1024}, {From: 1024, To: 1536}, {From: 62 * 512, To: 63 * 512}, {From: 63 * 512, To: 64 * 512}}
	if l := g.Held(); !slices.Equal(l, want) {
		t.Error(l)
	}
	if l := g.Parts(); len(l) != 0 {
		t.Error(l)
	}
}

func TestPartsAndHeld(t *testing.T) {
	g := usual()
	ok(t, g.Check())
	parts := []api.Part{
		{Ext: api.Ext{From: 30 * 512, To: 59 * 512}, Slot: 1}, {Ext: api.Ext{From: 6 * 512, To: 7 * 512}, Slot: 2}, {Ext: api.Ext{From: 7 * 512, To: 21 * 512}, Slot: 5},
	}
	if l := g.Parts(); !slices.Equal(l, parts) {
		t.Error(l)
	}
	held := []api.Ext{{From: 512, To: 1024}, {From: 3 * 512, To: 5 * 512}, {From: 60 * 512, To: 62 * 512}, {From: 63 * 512, To: 64 * 512}}
	if l := g.Held(); !slices.Equal(l, held) {
		t.Error(l)
	}
	for n := 1; n <= 128; n++ { // whole sectors, however many entries there are
		g := gpt.Table{Sectors: 100, At: 5, Behind: 50, List: make([]gpt.Entry, n)}
		l := g.Held()
		rows := int64(n+3) / 4
		if l[1] != (api.Ext{From: 5 * 512, To: (5 + rows) * 512}) || l[2] != (api.Ext{From: 50 * 512, To: (50 + rows) * 512}) {
			t.Error(n, l)
		}
	}
}

// An entry is none by its first 16 bytes, whatever the others are.
func TestNoneByItsFirstBytes(t *testing.T) {
	for at := range 32 {
		g := usual()
		g.List[0] = gpt.Entry{First: 22, Last: 23}
		g.List[0].Ids[at] = 128
		want := api.OK
		if at >= 16 {
			want = api.ErrForm
		}
		if e := g.Check(); e != want {
			t.Error(at, e)
		}
		if n := len(g.Parts()); (n == 4) != (at < 16) {
			t.Error(at, n)
		}
	}
	for at := range 80 {
		g := usual()
		g.List[3].Rest[at] = 1
		if e := g.Check(); e != api.ErrForm {
			t.Error(at, e)
		}
	}
	for _, x := range []gpt.Entry{{First: 1}, {Last: 1}, {First: -1}, {Last: math.MinInt64}, {First: 22, Last: 23}} {
		g := usual()
		g.List[3] = x
		if e := g.Check(); e != api.ErrForm {
			t.Error(x, e)
		}
	}
}

// checked: Check's answer, held against the plain one; Encode has the same error.
func checked(t *testing.T, g gpt.Table) api.Errno {
	t.Helper()
	given := clone(g)
	want := checkByWords(g)
	if e := g.Check(); e != want {
		t.Fatalf("Check: %d, not %d: %+v", e, want, g)
	}
	l, e := g.Encode()
	if e != want || e != api.OK && len(l) != 0 {
		t.Fatalf("Encode: %d, not %d, %d pieces: %+v", e, want, len(l), g)
	}
	if want == api.OK && !samePieces(l, piecesByWords(g)) {
		t.Fatalf("Encode: other pieces: %+v", g)
	}
	g.Parts()
	g.Held()
	if !same(g, given) {
		t.Fatal("what was handed in is changed")
	}
	return e
}

// Each of the numbers at its edges, by itself and with each other one.
func TestPlaces(t *testing.T) {
	numbers := []int64{math.MinInt64, -8388608, -1, 0, 1, 2, 3, 4, 5, 6, 7, 8, 9, 10, 11, 12, 13, 14, 15, 32767, 32768, 32769, math.MaxInt64 - 1, math.MaxInt64}
	base := gpt.Table{Sectors: 14, At: 3, First: 6, Last: 8, Behind: 10, List: make([]gpt.Entry, 5)}
	field := func(g *gpt.Table, i int) *int64 {
		return []*int64{&g.Sectors, &g.At, &g.First, &g.Last, &g.Behind}[i]
	}
	met := map[api.Errno]int{}
	for i := range 5 {
		for j := range 5 {
			for _, a := range numbers {
				for _, b := range numbers {
					g := clone(base)
					*field(&g, i), *field(&g, j) = a, b
					met[checked(t, g)]++
				}
			}
		}
	}
	if met[api.OK] < 20 || met[api.ErrForm] < 20 || met[api.ErrRange] < 20 {
		t.Error(met)
	}
}

// All places of small tables.
func TestAllSmallPlaces(t *testing.T) {
	right := 0
	for sectors := int64(5); sectors <= 9; sectors++ {
		for at := int64(0); at <= sectors; at++ {
			for from := int64(0); from <= sectors; from++ {
				for last := int64(0); last <= sectors; last++ {
					for behind := int64(0); behind <= sectors; behind++ {
						for _, n := range []int{1, 4, 5} {
							g := gpt.Table{Sectors: sectors, At: at, First: from, Last: last, Behind: behind, List: make([]gpt.Entry, n)}
							if checked(t, g) == api.OK {
								right++
							}
						}
					}
				}
			}
		}
	}
	if right == 0 {
		t.Error("none is right")
	}
}

func TestHowManyEntries(t *testing.T) {
	for _, n := range []int{0, 1, 2, 127, 128, 129, 1000} {
		g := gpt.Table{Sectors: 700, At: 2, First: 300, Last: 320, Behind: 330, List: make([]gpt.Entry, n)}
		want := api.OK
		if n < 1 || n > 128 {
			want = api.ErrForm
		}
		if e := checked(t, g); e != want {
			t.Error(n, e)
		}
	}
	for _, n := range []int64{-1, 0, 5, 6, 32768, 32769, math.MaxInt64} {
		g := gpt.Table{Sectors: n, At: 2, First: 3, Last: 3, Behind: 4, List: make([]gpt.Entry, 4)}
		want := api.OK
		if n < 6 || n > 32768 {
			want = api.ErrForm
		}
		if e := checked(t, g); e != want {
			t.Error(n, e)
		}
	}
}

// Rooms for partitions that have no sector are rooms: Last may be First - 1.
func TestNoRoom(t *testing.T) {
	g := gpt.Table{Sectors: 6, At: 2, First: 3, Last: 2, Behind: 3, List: make([]gpt.Entry, 1)}
	if e := checked(t, g); e != api.OK {
		t.Error(e)
	}
	g.Last = 1
	if e := checked(t, g); e != api.ErrRange {
		t.Error(e)
	}
	g.Last = 2
	g.List[0] = entry(1, 3, 2)
	if e := checked(t, g); e != api.ErrRange {
		t.Error(e)
	}
}

func TestPlacesOfEntries(t *testing.T) {
	numbers := []int64{math.MinInt64, -1, 0, 5, 6, 7, 21, 22, 29, 30, 57, 58, 59, 60, 63, 64, math.MaxInt64 - 1, math.MaxInt64}
	met := map[api.Errno]int{}
	for _, from := range numbers {
		for _, last := range numbers {
			for slot := range 6 {
				g := usual()
				g.List[slot] = entry(9, from, last)
				met[checked(t, g)]++
			}
		}
	}
	if met[api.OK] == 0 || met[api.ErrRange] == 0 || met[api.ErrCross] == 0 {
		t.Error(met)
	}
}

// crowd: a table with so many partitions, of a sector each.
func crowd(n int) gpt.Table {
	g := gpt.Table{Sectors: 200, At: 2, First: 34, Last: 160, Behind: 165, List: make([]gpt.Entry, 128)}
	for i := range n {
		g.List[(i*5)%128] = entry(int64(i), 34+int64(i), 34+int64(i))
	}
	return g
}

func TestHowManyPartitions(t *testing.T) {
	for n := range 40 {
		want := api.OK
		if n > 32 {
			want = api.ErrBig
		}
		g := crowd(n)
		if e := checked(t, g); e != want {
			t.Error(n, e)
		}
		if n < 2 {
			continue
		}
		g.List[5].First, g.List[5].Last = 34, 40 // two have a sector in common
		if want == api.OK {
			want = api.ErrCross
		}
		if e := checked(t, g); e != want {
			t.Error(n, e)
		}
		g.List[127].Rest[79] = 1 // no entry: told first
		if e := checked(t, g); e != api.ErrForm {
			t.Error(n, e)
		}
	}
}

// The first error of all: each that is laid is told ahead of those laid before it.
func TestCheckFirstError(t *testing.T) {
	g := crowd(40)
	g.List[5].First, g.List[5].Last = 34, 40
	steps := []struct {
		name string
		want api.Errno
		do   func()
	}{
		{"too many", api.ErrBig, func() {}},
		{"slot 127's place", api.ErrRange, func() { g.List[127] = entry(1, 1, 1) }},
		{"slot 126 is none", api.ErrForm, func() { g.List[126] = gpt.Entry{Last: 1} }},
		{"slot 3's place", api.ErrRange, func() { g.List[3] = entry(1, 50, 49) }},
		{"slot 2 is none", api.ErrForm, func() { g.List[2] = gpt.Entry{Rest: [80]byte{79: 1}} }},
		{"Behind", api.ErrRange, func() { g.Behind = 168 }},
		{"Last", api.ErrRange, func() { g.Last = 32 }},
		{"First", api.ErrRange, func() { g.First = 200 }},
		{"At", api.ErrRange, func() { g.At = 1 }},
		{"Sectors", api.ErrForm, func() { g.Sectors = 5 }},
	}
	for _, s := range steps {
		s.do()
		if e := checked(t, g); e != s.want {
			t.Errorf("%s: %d, not %d", s.name, e, s.want)
		}
	}
}

func TestAnyTables(t *testing.T) {
	r := rand.New(rand.NewSource(14))
	met := map[api.Errno]int{}
	for range 30000 {
		g := anyTable(r)
		met[checked(t, g)]++
	}
	for _, e := range []api.Errno{api.OK, api.ErrForm, api.ErrRange, api.ErrCross} {
		if met[e] < 100 {
			t.Error(met)
		}
	}
}

// anyTable: a table of up to 60 sectors, that is right or nearly so.
func anyTable(r *rand.Rand) gpt.Table {
	n := 1 + r.Intn(20)
	rows := int64(n+3) / 4
	g := gpt.Table{Sectors: 6 + 2*rows + r.Int63n(40), List: make([]gpt.Entry, n)}
	r.Read(g.Id[:])
	g.At = 2 + r.Int63n(3)
	g.First = g.At + rows + r.Int63n(3)
	g.Behind = g.Sectors - 1 - rows - r.Int63n(3)
	g.Last = g.Behind - 1 - r.Int63n(3)
	for i := range g.List {
		width := g.Last - g.First + 1
		if width < 1 || r.Intn(3) > 0 {
			continue
		}
		from := g.First + r.Int63n(width)
		g.List[i] = entry(r.Int63(), from, min(g.Last, from+r.Int63n(4)))
		if r.Intn(30) == 0 {
			clear(g.List[i].Ids[:16])
		}
	}
	if r.Intn(5) == 0 {
		*[]*int64{&g.Sectors, &g.At, &g.First, &g.Last, &g.Behind}[r.Intn(5)] += r.Int63n(5) - 2
	}
	return g
}

// rightTable: one that is right, with any partitions.
func rightTable(r *rand.Rand) gpt.Table {
	for {
		if g := anyTable(r); checkByWords(g) == api.OK {
			return g
		}
	}
}

func TestEncodedIsNewMemory(t *testing.T) {
	g := usual()
	want := piecesByWords(g)
	l, e := g.Encode()
	ok(t, e)
	for i := range l {
		clear(l[i].B)
		if other, _ := g.Encode(); !samePieces(other, want) {
			t.Fatal("an answer shares its memory")
		}
		for j := i + 1; j < len(l); j++ {
			if slices.Max(l[j].B) == 0 {
				t.Fatal("pieces share their memory", i, j)
			}
		}
	}
	g = usual()
	parts := g.Parts()
	parts[0].Slot = 5
	if g.Parts()[0].Slot != 1 {
		t.Error("Parts")
	}
}
