package console_test

import (
	"fmt"
	"hash/crc32"
	"math/rand"
	"slices"
	"strconv"
	"strings"
	"testing"

	"fettle/api"
	"fettle/console"
)

// The signatures that the document lists.
var (
	_ func(string) ([]console.Order, int, api.Errno) = console.Parse
	_ func(console.Order) string                     = console.Order.Show
	_ func(*console.Player, console.Order) string    = (*console.Player).Do
	_ func(string) []string                          = console.Run
	_                                                = console.Order{Word: "", Nums: []int64{}, Name: ""}
	_ [1]bool                                        = [console.Most - 399]bool{}
	_                                                = console.Player{}
)

// form is what the document says of a word: whether a name is told, and how many numbers.
type form struct {
	word        string
	named       bool
	least, most int
}

// forms: each word's.
func forms() []form {
	list := []form{{"make", false, 3, 4}, {"mbr", false, 0, 12}, {"gpt", false, 0, 8}, {"fat", false, 3, 3}, {"ext", false, 4, 4},
		{"put", false, 0, 40}, {"crash", false, 0, 40}, {"get", false, 2, 2}, {"see", true, 2, 2}}
	for _, w := range strings.Fields("snap drop back differ") {
		list = append(list, form{w, true, 0, 0})
	}
	for _, w := range strings.Fields("resize refuse stop tree lost odd") {
		list = append(list, form{w, false, 1, 1})
	}
	for _, w := range strings.Fields("dry trim squeeze mend compact recover check list parts length") {
		list = append(list, form{w, false, 0, 0})
	}
	return list
}

// order: an order of a form, with so many numbers, from 0 on.
func (f form) order(n int) console.Order {
	o := console.Order{Word: f.word}
	if f.named {
		o.Name = "a"
	}
	for i := range n {
		o.Nums = append(o.Nums, int64(i))
	}
	return o
}

// same: are two orders one? Nil and empty lists are.
func same(a, b console.Order) bool {
	return a.Word == b.Word && a.Name == b.Name && slices.Equal(a.Nums, b.Nums)
}

// do: what a line answers.
func do(t *testing.T, p *console.Player, line string) string {
	t.Helper()
	l, wrong, e := console.Parse(line)
	if e != api.OK || len(l) != 1 {
		t.Fatalf("%q: error %d, line %d, orders %v", line, e, wrong, l)
	}
	return p.Do(l[0])
}

// says: lines, each with what it must answer.
func says(t *testing.T, p *console.Player, pairs ...string) {
	t.Helper()
	for l := range slices.Chunk(pairs, 2) {
		if is := do(t, p, l[0]); is != l[1] {
			t.Fatalf("%s: %q, not %q", l[0], is, l[1])
		}
	}
}

// goes: a player behind lines, all of which must be done.
func goes(t *testing.T, lines ...string) *console.Player {
	t.Helper()
	p := &console.Player{}
	for _, l := range lines {
		if is := do(t, p, l); strings.HasPrefix(is, "error") {
			t.Fatalf("%s: %q", l, is)
		}
	}
	return p
}

// puts: the orders that put bytes at a place; where there are many noughts none are.
func puts(at int64, b []byte) []string {
	var list []string
	for p := range slices.Chunk(b, 39) {
		if slices.ContainsFunc(p, func(c byte) bool { return c != 0 }) {
			line := fmt.Sprint("put ", at)
			for _, c := range p {
				line += " " + strconv.Itoa(int(c))
			}
			list = append(list, line)
		}
		at += int64(len(p))
	}
	return list
}

// told: what get and see answer of bytes.
func told(b []byte) string {
	n := slices.IndexFunc(b, func(c byte) bool { return c != 0 })
	if n < 0 {
		n = len(b)
	}
	return fmt.Sprint("bytes ", len(b), " ", crc32.ChecksumIEEE(b), " ", n)
}

// shows: a player's active disk has these bytes.
func shows(t *testing.T, p *console.Player, want []byte) {
	t.Helper()
	says(t, p, fmt.Sprint("get 0 ", len(want)), told(want))
}

// pattern: any bytes, by a number, none of them 0.
func pattern(n int64, seed int64) []byte {
	b := make([]byte, n)
	r := rand.New(rand.NewSource(seed))
	for i := range b {
		b[i] = byte(1 + r.Intn(255))
	}
	return b
}
