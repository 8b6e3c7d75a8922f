package console_test

import (
	"fmt"
	"math/rand"
	"slices"
	"strings"
	"testing"

	"fettle/api"
	"fettle/console"
)

// parsed: a text must be these orders.
func parsed(t *testing.T, text string, want ...console.Order) {
	t.Helper()
	l, wrong, e := console.Parse(text)
	if e != api.OK || wrong != 0 || !slices.EqualFunc(l, want, same) {
		t.Errorf("%.80q: %v, line %d, error %d, not %v", text, l, wrong, e, want)
	}
}

// wrong: a text must be none, for a line, with an error.
func wrong(t *testing.T, text string, line int, e api.Errno) {
	t.Helper()
	l, at, is := console.Parse(text)
	if l != nil || at != line || is != e {
		t.Errorf("%.80q: %v, line %d, error %d, not %d, %d", text, l, at, is, line, e)
	}
}

// TestEachWord: each word with each count of numbers up to two more than it takes, with a
// name and without.
func TestEachWord(t *testing.T) {
	for _, f := range forms() {
		for n := range f.most + 3 {
			o := f.order(n)
			if n >= f.least && n <= f.most {
				parsed(t, o.Show(), o)
				parsed(t, "\n length\n"+o.Show()+" # one\nlength", console.Order{Word: "length"}, o, console.Order{Word: "length"})
			} else {
				wrong(t, o.Show(), 1, api.ErrArg)
				wrong(t, "length\n\n"+o.Show(), 3, api.ErrArg)
			}
			if f.named {
				o.Name = "" // the first number, if there is one, is the name
				if n > f.least {
					parsed(t, o.Show(), console.Order{Word: f.word, Name: "0", Nums: o.Nums[1:]})
					break
				}
				wrong(t, o.Show(), 1, api.ErrArg)
			} else {
				o.Name = "a"
				wrong(t, o.Show(), 1, api.ErrArg)
			}
		}
	}
}

// TestNames: any word is a name.
func TestNames(t *testing.T) {
	for _, name := range []string{"a", "A", "-", "-1", "7", "snap", "\"", "\xff", "é", "a\x00b", strings.Repeat("n", 300)} {
		parsed(t, "snap "+name, console.Order{Word: "snap", Name: name})
		parsed(t, "see "+name+" 1 -2", console.Order{Word: "see", Name: name, Nums: []int64{1, -2}})
		wrong(t, "snap "+name+" b", 1, api.ErrArg)
	}
}

// TestNumbers: numbers at their bounds, and words that are none.
func TestNumbers(t *testing.T) {
	for _, n := range []int64{0, 1, -1, 9, 10, -10, 1<<40 - 1, 1 << 40, -1 << 40, 1 - 1<<40, 1 << 32} {
		parsed(t, fmt.Sprint("resize ", n), console.Order{Word: "resize", Nums: []int64{n}})
		parsed(t, fmt.Sprint("put 5 ", n, " 7"), console.Order{Word: "put", Nums: []int64{5, n, 7}})
	}
	for _, w := range []string{
		"1099511627777", "-1099511627777", "9223372036854775807", "-9223372036854775808", "9223372036854775808", "-9223372036854775809", "99999999999999999999999",
		"00", "01", "007", "-0", "-01", "-00", "+1", "+0", "+", "-", "--1", "+-1", "1-", "1.0", "1,5", "1e3", "0x1", "1_0", "0b1", "0o7", "x", "get", "1a", "a1", "٣", "１", "\x001", "½",
	} {
		wrong(t, "resize "+w, 1, api.ErrArg)
		wrong(t, "\nput 5 "+w+" 7", 2, api.ErrArg)
		wrong(t, "get 0 5\n#\nsee a 5 "+w, 3, api.ErrArg)
	}
}

// TestBlanks: blanks of each kind part words, a line's end alone parts lines.
func TestBlanks(t *testing.T) {
	o := console.Order{Word: "see", Name: "a", Nums: []int64{0, 5}}
	for _, b := range []string{" ", "\t", "\v", "\f", "\r", "\u0085", "\u00a0", "\u1680", "\u2000", "\u2003", "\u2028", "\u2029", "\u202f", "\u205f", "\u3000"} {
		parsed(t, strings.Join([]string{"", "see", "a", "0", "", "5", ""}, b), o)
		parsed(t, b+b)
		parsed(t, b+"\n"+b+"length"+b+b+"\n"+b, console.Order{Word: "length"})
		wrong(t, "length"+b+"length", 1, api.ErrArg)
	}
	wrong(t, "see\na 0 5", 1, api.ErrArg)
	wrong(t, "see\u200ba 0 5", 1, api.ErrName) // no blank
}

// TestRemarks: what stands behind a # is nothing; so is a line without a word.
func TestRemarks(t *testing.T) {
	parsed(t, "")
	parsed(t, "\n\n \n")
	parsed(t, "# get 0 5\n#\n  ## # x\n#\xff")
	parsed(t, "get 0 5#6", console.Order{Word: "get", Nums: []int64{0, 5}})
	parsed(t, "get 0 5 # 6 # 7\nlist#", console.Order{Word: "get", Nums: []int64{0, 5}}, console.Order{Word: "list"})
	parsed(t, "snap a#b", console.Order{Word: "snap", Name: "a"})
	wrong(t, "get 0 #5", 1, api.ErrArg)
	wrong(t, "snap #a", 1, api.ErrArg)
	wrong(t, "ge#t 0 5", 1, api.ErrName)
}

// TestWrongLine: the first line that is wrong is told, and the first error of it.
func TestWrongLine(t *testing.T) {
	for _, w := range []string{"bogus", "Get", "get0", "pull", "alone", "write", "1", "-", "\"", "get\x00", "résumé"} {
		wrong(t, w, 1, api.ErrName)
		wrong(t, w+" 00 x", 1, api.ErrName)
		wrong(t, "list\n# "+w+"\n\n"+w+" 0 5\nget", 4, api.ErrName)
	}
	wrong(t, "list\nget 0\nbogus", 2, api.ErrArg)
	wrong(t, "list\r\nget 0\r\n", 2, api.ErrArg)
	wrong(t, strings.Repeat("\n", 1000)+"get", 1001, api.ErrArg)
}

// TestMostOrders: so many, and not one more; a line without a word doesn't count.
func TestMostOrders(t *testing.T) {
	text := strings.Repeat("list\n \n", console.Most)
	if l, wrong, e := console.Parse(text); len(l) != console.Most || wrong != 0 || e != api.OK {
		t.Error("the most orders:", len(l), wrong, e)
	}
	for _, more := range []string{"list", "bogus", "get 0"} {
		wrong(t, text+more, 801, api.ErrBig)
		wrong(t, text+"# "+more+"\n\n\n"+more+"\n"+more, 804, api.ErrBig)
	}
	wrong(t, "bogus\n"+text+"list", 1, api.ErrName)
}

// TestMostText: so many bytes, and not one more, whatever they are.
func TestMostText(t *testing.T) {
	for _, text := range []string{"#", "list\n#", "\n", " "} {
		text += strings.Repeat(text[len(text)-1:], api.MaxText-len(text))
		if _, wrong, e := console.Parse(text); wrong != 0 || e != api.OK {
			t.Error("the most bytes:", wrong, e)
		}
		wrong(t, text+" ", 0, api.ErrBig)
		wrong(t, "bogus"+text, 0, api.ErrBig)
		if l := console.Run(text + " "); len(l) != 1 || l[0] != "error 3 line 0" {
			t.Error(l)
		}
	}
	wrong(t, strings.Repeat("\n", api.MaxText-1)+"x", api.MaxText, api.ErrName)
}

// TestShow: an order's line, that of one that Parse doesn't make, too.
func TestShow(t *testing.T) {
	for _, c := range []struct {
		order console.Order
		want  string
	}{
		{console.Order{Word: "list"}, "list"},
		{console.Order{Word: "list", Nums: []int64{}}, "list"},
		{console.Order{Word: "snap", Name: "a-1"}, "snap a-1"},
		{console.Order{Word: "see", Nums: []int64{0, -7}, Name: "b"}, "see b 0 -7"},
		{console.Order{Word: "put", Nums: []int64{1 << 40, -1 << 40, 0}}, "put 1099511627776 -1099511627776 0"},
		{console.Order{Word: "get", Nums: []int64{-1 << 63, 1<<63 - 1}}, "get -9223372036854775808 9223372036854775807"},
		{console.Order{}, ""},
	} {
		if is := c.order.Show(); is != c.want {
			t.Errorf("%v: %q", c.order, is)
		}
	}
}

// anyText: a text that is nearly a script.
func anyText(r *rand.Rand) string {
	words := strings.Fields("make mbr gpt fat ext put crash get see snap drop back differ resize refuse stop tree lost odd dry trim list parts a b-2 A 0 1 -1 00 +1 512 1099511627776 1099511627777 x # #y")
	blanks := []string{" ", " ", " ", " ", " ", " ", " ", " ", " ", "\t", "\r", "\u00a0", "", "\n", "\n", "\x00", "\xff"}
	text := ""
	for range r.Intn(4) {
		f := forms()[r.Intn(len(forms()))]
		text += f.order(f.least+r.Intn(f.most-f.least+1)).Show() + "\n"
	}
	for range r.Intn(8) {
		text += words[r.Intn(len(words))] + blanks[r.Intn(len(blanks))]
	}
	return text
}

// TestAnyText: whatever the text, Parse ends; what it makes is shown and parsed as it was,
// and what it doesn't make is told by a line that is there.
func TestAnyText(t *testing.T) {
	r := rand.New(rand.NewSource(5))
	errors := map[api.Errno]int{}
	for range 20000 {
		text := anyText(r)
		l, line, e := console.Parse(text)
		errors[e]++
		if e != api.OK {
			if l != nil || line < 1 || line > 1+strings.Count(text, "\n") {
				t.Fatalf("%q: %v, line %d", text, l, line)
			}
			// Ahead of that line all is right, and without it so is that.
			lines := strings.Split(text, "\n")
			if _, _, e := console.Parse(strings.Join(lines[:line-1], "\n")); e != api.OK {
				t.Fatalf("%q: a line ahead of %d is wrong, too", text, line)
			}
			wrong(t, lines[line-1], 1, e)
			continue
		}
		shown := ""
		for _, o := range l {
			parsed(t, o.Show(), o)
			shown += o.Show() + "\n"
		}
		parsed(t, shown, l...)
	}
	for _, e := range []api.Errno{api.OK, api.ErrArg, api.ErrName} {
		if errors[e] < 1000 {
			t.Error("too few", e, errors)
		}
	}
}

// TestOwnMemory: no two orders share their numbers, nor room behind them.
func TestOwnMemory(t *testing.T) {
	l, _, _ := console.Parse("put 1 2 3\nput 1 2 3\nget 1 2")
	l[0].Nums[0] = 9
	_ = append(l[0].Nums, 9)
	if !slices.Equal(l[1].Nums, []int64{1, 2, 3}) || !slices.Equal(l[2].Nums, []int64{1, 2}) {
		t.Error(l)
	}
}
