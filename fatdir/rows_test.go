package fatdir_test

import (
	"bytes"
	"math/rand"
	"slices"
	"strings"
	"testing"
	"unicode/utf16"

	"fettle/api"
	"fettle/fatdir"
)

func TestExample(t *testing.T) {
	names(t, "the chapter's", row("A       TXT", plain, 0, 0), "A.TXT")
}

func TestNothing(t *testing.T) {
	for _, b := range [][]byte{nil, {}, make([]byte, 32), make([]byte, 31), row("A       TXT", plain, 0, 0)[:31]} {
		names(t, "no row", b)
	}
}

func TestFields(t *testing.T) {
	for _, want := range []fatdir.Row{
		{Name: "A.TXT"},
		{Name: "A.TXT", First: 2, Size: 1},
		{Name: "A.TXT", First: 0xFFFF, Size: 0xFFFF},
		{Name: "A.TXT", First: 0x10000, Size: 0x10000},
		{Name: "A.TXT", First: 0x12345678, Size: 0x89ABCDEF},
		{Name: "A.TXT", First: 0xFFFFFFFF, Size: 0xFFFFFFFF},
		{Name: "A.TXT", First: 0xF0000002, Size: 1 << 31, Folder: true},
	} {
		attributes := byte(plain)
		if want.Folder {
			attributes = folder
		}
		list, e := rows(t, "fields", row("A       TXT", attributes, want.First, want.Size))
		if e != api.OK || len(list) != 1 || list[0] != want {
			t.Errorf("%v, error %d, not %v", list, e, want)
		}
	}
}

func TestShortNames(t *testing.T) {
	for short, want := range map[string]string{
		"A       TXT":             "A.TXT",
		"ABCDEFGHIJK":             "ABCDEFGH.IJK",
		"A          ":             "A",
		"ABCDEFGH   ":             "ABCDEFGH",
		"A       T  ":             "A.T",
		"A B     T X":             "A B.T X",
		" A       T ":             " A. T",
		"        TXT":             ".TXT",
		"          T":             ".  T",
		"a.b     c.d":             "a.b.c.d",
		"...        ":             "...",
		".A         ":             ".A",
		". .        ":             ". .",
		"..      A  ":             "...A",
		"\x05BC     TXT":          "\xE5BC.TXT",
		"\x05          ":          "\xE5",
		"A\x05\xE5\x00    \x05  ": "A\x05\xE5\x00.\x05",
		"A       \xE5  ":          "A.\xE5",
		"A       \x00  ":          "A.\x00",
		"A\x00\x00\x00\x00\x00\x00\x00\x00\x00\x00": "A\x00\x00\x00\x00\x00\x00\x00.\x00\x00\x00",
		"\xC3\x84\xFF\xFE    \x80  ":                "\xC3\x84\xFF\xFE.\x80",
		"/       /  ":                               "/./",
		"\t       \t  ":                             "\t.\t",
	} {
		names(t, "short "+short, row(short, plain, 3, 4), want)
	}
}

// TestEachByte: of each byte at each place of a short name.
func TestEachByte(t *testing.T) {
	for at := range 11 {
		for c := range 256 {
			b := row("ABCDEFGHIJK", plain, 3, 4)
			b[at] = byte(c)
			list, e := rows(t, "a byte", slices.Concat(b, row("B       TXT", plain, 0, 0)))
			count := 2
			if at == 0 && c == 0 {
				count = 0
			} else if at == 0 && c == 0xE5 {
				count = 1
			}
			if e != api.OK || len(list) != count {
				t.Errorf("byte %x at %d: %+v, error %d", c, at, list, e)
			}
		}
	}
}

// TestAttributes: of each byte of attributes: parts of long names and labels aside, a
// folder by its bit.
func TestAttributes(t *testing.T) {
	for a := range 256 {
		b := slices.Concat(row("A          ", byte(a), 2, 3), row("B          ", plain, 4, 5))
		list, e := rows(t, "attributes", b)
		want := []fatdir.Row{{Name: "A", Folder: a&16 != 0, First: 2, Size: 3}, {Name: "B", First: 4, Size: 5}}
		if a&8 != 0 {
			want = want[1:]
		}
		if e != api.OK || !slices.Equal(list, want) {
			t.Errorf("attributes %x: %v, error %d", a, list, e)
		}
		long := slices.Concat(part(0x41, sumOf("B          "), 'x', 0), row("B          ", plain, 4, 5))
		long[11] = byte(a)
		name := "B"
		if a&0x3F == 0x0F {
			name = "x"
		}
		if list, _ := rows(t, "a part's attributes", long); len(list) == 0 || list[len(list)-1].Name != name {
			t.Errorf("a part's attributes %x: %v", a, list)
		}
	}
}

func TestRowsThatAreNone(t *testing.T) {
	a, b := row("A          ", plain, 0, 0), row("B          ", plain, 0, 0)
	gone := row("\xE5          ", plain, 0, 0)
	empty := row("           ", plain, 0, 0)
	end := row("\x00          ", plain, 0, 0)
	names(t, "one is gone", slices.Concat(a, gone, b), "A", "B")
	names(t, "all are gone", slices.Concat(gone, gone))
	names(t, "an end", slices.Concat(a, end, b), "A")
	names(t, "an end first", slices.Concat(end, b))
	names(t, "an end ahead of an empty name", slices.Concat(a, end, empty), "A")
	for attributes := range 256 {
		end[11], gone[11] = byte(attributes), byte(attributes)
		names(t, "an end of any attributes", slices.Concat(a, end, b), "A")
		names(t, "one is gone of any attributes", slices.Concat(a, gone, b), "A", "B")
	}
	for n := range 32 {
		names(t, "no whole row", slices.Concat(a, b[:n]), "A")
		names(t, "no whole row that would be wrong", slices.Concat(a, empty[:n]), "A")
	}
}

func TestLabels(t *testing.T) {
	a := row("A          ", plain, 0, 0)
	names(t, "a label", slices.Concat(row("VOLUME     ", label, 0, 0), a), "A")
	names(t, "a label that is a folder", slices.Concat(row("VOLUME     ", label|folder, 9, 0), a), "A")
	names(t, "a label without a name", slices.Concat(row("           ", label, 0, 0), a), "A")
	names(t, "a label with an empty long name", slices.Concat(named("", "VOLUME     ", label, 0, 0), a), "A")
	names(t, "a label with a long name", slices.Concat(named("volume", "VOLUME     ", label, 0, 0), a), "A")
	names(t, "a label between a long name and its row", slices.Concat(named("long", "A          ", plain, 0, 0)[:32], row("A          ", label, 0, 0), a), "A")
}

func TestDots(t *testing.T) {
	a := row("A          ", plain, 0, 0)
	names(t, "both", slices.Concat(row(".          ", folder, 7, 0), row("..         ", folder, 0, 0), a), "A")
	names(t, "files", slices.Concat(row(".          ", plain, 7, 3), row("..         ", plain, 0, 9), a), "A")
	names(t, "nothing, and a point behind it", slices.Concat(row("        .  ", plain, 0, 0), a), "A")
	names(t, "long names", slices.Concat(named(".", "B          ", plain, 0, 0), named("..", "C          ", folder, 0, 0), a), "A")
	names(t, "long names of such rows", slices.Concat(named("x", ".          ", plain, 0, 0), named("y", "..         ", folder, 0, 0)), "x", "y")
	names(t, "more points", slices.Concat(named("...", "B          ", plain, 0, 0), row("...        ", plain, 0, 0)), "...", "...")
	names(t, "a long name ahead of a dot is nobody else's", slices.Concat(named(".", "A          ", plain, 0, 0), a), "A")
}

func TestEmptyNames(t *testing.T) {
	a := row("A          ", plain, 0, 0)
	for what, b := range map[string][]byte{
		"blanks":                     row("           ", plain, 0, 0),
		"a folder of blanks":         row("           ", folder, 5, 0),
		"a long name of no letters":  named("", "B          ", plain, 0, 0),
		"a long name, 0 and letters": slices.Concat(part(0x41, sumOf("B          "), 0, 'a', 'b'), row("B          ", plain, 0, 0)),
		"blanks, another's sum":      slices.Concat(part(0x41, sumOf("           ")+1, 'a', 0), row("           ", plain, 0, 0)),
	} {
		for _, all := range [][]byte{b, slices.Concat(a, b), slices.Concat(b, a), slices.Concat(a, b, a)} {
			if list, e := rows(t, what, all); e != api.ErrName || len(list) != 0 {
				t.Errorf("%s: %+v, error %d", what, list, e)
			}
		}
	}
	names(t, "blanks with a long name", named("a", "           ", plain, 0, 0), "a")
	names(t, "a long name of blanks", named("  ", "B          ", plain, 0, 0), "  ")
}

func TestLongNames(t *testing.T) {
	for _, name := range []string{
		"a", "Long name.text", "twelve bytes", "thirteen byte", "fourteen bytes", " a ", "a/b", "\x01",
		strings.Repeat("0123456789abc", 2), strings.Repeat("0123456789abc", 20), strings.Repeat("x", 259), strings.Repeat("y", 255),
		"Größe", "日本語", "\U0001F600", "a\U0001F600b\U0010FFFF\U00010000", "\uFFFF\uFFFE\uFFFD", "\uD7FF\uE000",
		strings.Repeat("z", 12) + "\U0001F600", strings.Repeat("\U0001F600", 130),
	} {
		names(t, name, named(name, "LONG~1  TXT", plain, 3, 4), name)
		names(t, name, named(name, "\x05ONG~1  TXT", folder, 3, 4), name)
		names(t, "two of them", slices.Concat(named(name, "A          ", plain, 3, 4), named("b", "B          ", plain, 3, 4), row("C          ", plain, 0, 0)), name, "b", "C")
	}
	list, e := rows(t, "fields", named("long", "A          ", folder, 0x12345, 6))
	if e != api.OK || len(list) != 1 || list[0] != (fatdir.Row{Name: "long", Folder: true, First: 0x12345, Size: 6}) {
		t.Error(list, e)
	}
}

// TestHalves: letters that are two, and halves alone, at any place.
func TestHalves(t *testing.T) {
	sum := sumOf("A          ")
	with := func(letters ...uint16) []byte {
		return slices.Concat(parts(letters, sum), row("A          ", plain, 0, 0))
	}
	names(t, "a first half alone", with(0xD800, 'a'), "\uFFFDa")
	names(t, "a second half alone", with(0xDC00, 'a'), "\uFFFDa")
	names(t, "halves the other way round", with(0xDC00, 0xD800), "\uFFFD\uFFFD")
	names(t, "two first ones and a second", with(0xD800, 0xD801, 0xDC02), "\uFFFD\U00010402")
	names(t, "a pair and a half", with(0xD800, 0xDC00, 0xDC00), "\U00010000\uFFFD")
	names(t, "the last pair", with(0xDBFF, 0xDFFF), "\U0010FFFF")
	names(t, "the edges", with(0xD7FF, 0xE000, 0xDBFF, 0xE000, 0xD7FF, 0xDC00, 0xDBFF, 0xDBFF, 0xDFFF, 0xDFFF), "\uD7FF\uE000\uFFFD\uE000\uD7FF\uFFFD\uFFFD\U0010FFFF\uFFFD")
	names(t, "a first half at the end", with('a', 0xD83D), "a\uFFFD")
	names(t, "a 0 between", with(0xD83D, 0, 0xDE00), "\uFFFD")
	split := append(slices.Repeat([]uint16{'a'}, 12), 0xD83D, 0xDE00)
	names(t, "in two parts", with(split...), strings.Repeat("a", 12)+"\U0001F600")
	names(t, "a first half at the very end", with(split[:13]...), strings.Repeat("a", 12)+"\uFFFD")
	r := rand.New(rand.NewSource(4))
	for range 3000 {
		letters := make([]uint16, r.Intn(60)+1)
		for i := range letters {
			letters[i] = []uint16{'a', 0xD7FF, 0xD800, 0xDBFF, 0xDC00, 0xDFFF, 0xE000, 0xFFFF, uint16(0xD800 + r.Intn(0x800)), uint16(r.Intn(1 << 16))}[r.Intn(10)]
		}
		rows(t, "any letters", with(letters...))
	}
}

// TestEnds: a name ends ahead of the first 0, wherever that is.
func TestEnds(t *testing.T) {
	sum := sumOf("A          ")
	for n := 1; n < 40; n++ {
		letters := utf16.Encode([]rune(strings.Repeat("abcdefghijklmnopqrstuvwxyz", 2)[:39]))
		letters[n-1] = 0
		b := slices.Concat(parts(letters, sum), row("A          ", plain, 0, 0))
		if n == 1 {
			if _, e := rows(t, "an end at once", b); e != api.ErrName {
				t.Error("an end at once:", e)
			}
			continue
		}
		names(t, "an end", b, strings.Repeat("abcdefghijklmnopqrstuvwxyz", 2)[:n-1])
	}
}

// TestOrder: a long name counts only if its parts come in order, right ahead of its row.
func TestOrder(t *testing.T) {
	const short = "A          "
	sum := sumOf(short)
	a := row(short, plain, 0, 0)
	p := func(first byte) []byte { return part(first, sum, 'a'+uint16(first%64)-1, 'z') }
	other := part(2, sum+1, 'x')
	three := []string{"az" + strings.Repeat("\uFFFF", 11), "bz" + strings.Repeat("\uFFFF", 11), "cz" + strings.Repeat("\uFFFF", 11)}
	whole := strings.Join(three, "")
	for what, c := range map[string]struct {
		b    [][]byte
		want string
	}{
		"in order":                                 {[][]byte{p(0x43), p(2), p(1)}, whole},
		"one alone":                                {[][]byte{p(0x41)}, three[0]},
		"the highest bit counts not":               {[][]byte{p(0xC3), p(0x82), p(0x81)}, whole},
		"no last one":                              {[][]byte{p(3), p(2), p(1)}, "A"},
		"no last one, one alone":                   {[][]byte{p(1)}, "A"},
		"one is lacking":                           {[][]byte{p(0x43), p(1)}, "A"},
		"the first is lacking":                     {[][]byte{p(0x43), p(2)}, "A"},
		"the last one alone":                       {[][]byte{p(0x43)}, "A"},
		"one twice":                                {[][]byte{p(0x43), p(2), p(2), p(1)}, "A"},
		"the other way round":                      {[][]byte{p(1), p(2), p(0x43)}, "A"},
		"one behind the first":                     {[][]byte{p(0x43), p(2), p(1), p(1)}, "A"},
		"a part 0 behind":                          {[][]byte{p(0x43), p(2), p(1), p(0x80)}, "A"},
		"a part 0 that begins":                     {[][]byte{p(0x40)}, "A"},
		"a part 0 that begins, ahead":              {[][]byte{p(0x40), p(0x41)}, three[0]},
		"begun anew":                               {[][]byte{p(0x45), p(0x43), p(2), p(1)}, whole},
		"begun anew behind a whole one":            {[][]byte{p(0x42), p(1), p(0x41)}, three[0]},
		"begun anew, though it would go on":        {[][]byte{p(0x42), p(0x41)}, three[0]},
		"begun anew behind nothing":                {[][]byte{p(7), p(9), p(0x43), p(2), p(1)}, whole},
		"begun anew of another sum":                {[][]byte{part(0x42, sum+1, 'x'), p(0x41)}, three[0]},
		"another sum within":                       {[][]byte{p(0x43), other, p(1)}, "A"},
		"another sum at the beginning":             {[][]byte{part(0x43, sum+1, 'x'), p(2), p(1)}, "A"},
		"another sum at the end":                   {[][]byte{p(0x42), part(1, sum+1, 'x')}, "A"},
		"another sum in all":                       {[][]byte{part(0x42, sum+1, 'x'), part(1, sum+1, 'x')}, "A"},
		"one is gone within":                       {[][]byte{p(0x43), p(2), row("\xE5          ", plain, 0, 0), p(1)}, "A"},
		"one is gone behind":                       {[][]byte{p(0x41), row("\xE5          ", plain, 0, 0)}, "A"},
		"a part is gone behind":                    {[][]byte{p(0x41), p(0xE5)}, "A"},
		"a part is gone ahead":                     {[][]byte{p(0xE5), p(0x41)}, three[0]},
		"a part that is gone would be the last":    {[][]byte{p(0xE5), p(0x24), p(0x23)}, "A"},
		"a label within":                           {[][]byte{p(0x42), row("V          ", label, 0, 0), p(1)}, "A"},
		"a dot within":                             {[][]byte{p(0x42), row(".          ", folder, 0, 0), p(1)}, "A"},
		"a part that doesn't go on, then the next": {[][]byte{p(0x43), p(1), p(2), p(1)}, "A"},
		"beyond 20":                                {[][]byte{p(0x40 + 21)}, "A"},
		"beyond 20, and those that go on":          {append([][]byte{p(0x40 + 21)}, counted(20, p)...), "A"},
		"63":                                       {append([][]byte{p(0x7F)}, counted(62, p)...), "A"},
		"20 without the last":                      {counted(20, p), "A"},
	} {
		names(t, what, slices.Concat(bytes.Join(c.b, nil), a), c.want)
		names(t, what+", twice", slices.Concat(bytes.Join(c.b, nil), a, a), c.want, "A")
		names(t, what+", behind another", slices.Concat(named("long", "B          ", plain, 0, 0), bytes.Join(c.b, nil), a), "long", c.want)
	}
	names(t, "another row between", slices.Concat(p(0x41), row("B          ", plain, 0, 0), a), "B", "A")
	names(t, "another row within", slices.Concat(p(0x42), row("B          ", plain, 0, 0), p(1), a), "B", "A")
	names(t, "parts alone", slices.Concat(p(0x42), p(1)))
	names(t, "an end behind them", slices.Concat(p(0x42), p(1), make([]byte, 32), a))
	names(t, "no whole row behind them", slices.Concat(p(0x42), p(1), a[:31]))
}

// counted: parts from a number down to 1.
func counted(from int, p func(byte) []byte) (l [][]byte) {
	for n := from; n > 0; n-- {
		l = append(l, p(byte(n)))
	}
	return l
}

// TestSums: of each sum just one is that of the name; it is the sum of the bytes as
// they stand.
func TestSums(t *testing.T) {
	for _, short := range []string{"A          ", "LONGNA~1TXT", "\x05BCDEFGHIJK", "\xFF\xFE\xFD\xFC\xFB\xFA\xF9\xF8\xF7\xF6\xF5", ".          "} {
		fits := 0
		for sum := range 256 {
			b := slices.Concat(part(0x41, byte(sum), 'x', 0), row(short, plain, 0, 0))
			list, e := rows(t, "a sum", b)
			ok(t, e)
			if len(list) == 1 && list[0].Name == "x" {
				fits++
				if byte(sum) != sumOf(short) {
					t.Errorf("%q: sum %x, not %x", short, sum, sumOf(short))
				}
			}
		}
		if fits != 1 {
			t.Errorf("%q: %d sums fit", short, fits)
		}
	}
	for short, want := range map[string]byte{"\x00\x00\x00\x00\x00\x00\x00\x00\x00\x00\x01": 1, "\x01\x00\x00\x00\x00\x00\x00\x00\x00\x00\x00": 0x40, "\x00\x00\x00\x00\x00\x00\x00\x00\x00\x01\x01": 0x81} {
		if sumOf(short) != want {
			t.Errorf("%q: sum %x, not %x", short, sumOf(short), want)
		}
	}
}

// TestAnyRows: rows that are near to right ones, in any order; and any bytes.
func TestAnyRows(t *testing.T) {
	r := rand.New(rand.NewSource(2))
	shorts := []string{"A          ", "B       TXT", "\x05          ", ".          ", "..         ", "\xE5          ", "C          "}
	met := map[api.Errno]int{}
	long := 0
	for range 30000 {
		var b []byte
		for range r.Intn(12) {
			short := shorts[r.Intn(len(shorts))]
			switch r.Intn(8) {
			case 0:
				b = append(b, row(short, byte(r.Intn(256)), 0, 0)...)
			case 1:
				b = append(b, row(short, plain, r.Int63n(1<<32), r.Int63n(1<<32))...)
			case 2, 3:
				b = append(b, part(byte(0x40+r.Intn(4)), sumOf(short), uint16(r.Intn(4)), 'x')...)
			case 4, 5:
				b = append(b, part(byte(1+r.Intn(4)), sumOf(short), 'y', uint16(r.Intn(3)))...)
			case 6:
				b = append(b, named([]string{"", ".", "a", strings.Repeat("long", 5), strings.Repeat("x", 13*20)}[min(r.Intn(40), 4)], short, plain, 3, 4)...)
			default:
				b = append(b, filler(r.Int63())...)
			}
		}
		for range r.Intn(3) {
			if len(b) > 0 {
				b[r.Intn(len(b))] ^= 1 << r.Intn(8)
			}
		}
		list, e := rows(t, "any rows", b[:max(len(b)-r.Intn(40), 0)])
		met[e]++
		for _, x := range list {
			if len(x.Name) > 12 {
				long++
			}
		}
	}
	if met[api.OK] < 5000 || met[api.ErrName] < 100 || long < 1000 || len(met) != 2 {
		t.Error("too few of a kind:", met, long)
	}
	for seed := range int64(500) {
		rows(t, "any bytes", pattern(int(seed)*7, seed))
	}
}
