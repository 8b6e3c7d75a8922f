package console

import (
	"strconv"
	"strings"

	"fettle/api"
)

// What parts a script's lines, and what begins a remark.
const (
	lineEnd = "\n"
	remark  = "#"
)

// furthest is how far from 0 a script's numbers may be.
const furthest = 1 << 40

// form is what stands behind an order's word: a name, if one is told, and so many numbers.
type form struct {
	named       bool
	least, most int
}

// numbers: the form of so many numbers, and nothing else.
func numbers(least, most int) form { return form{least: least, most: most} }

// formOf: the form of the orders of a word; false: it is none's.
func formOf(word string) (form, bool) {
	switch word {
	case "make":
		return numbers(3, 4), true
	case "mbr":
		return numbers(0, 12), true
	case "gpt":
		return numbers(0, 8), true
	case "fat":
		return numbers(3, 3), true
	case "ext":
		return numbers(4, 4), true
	case "put", "crash":
		return numbers(0, 40), true
	case "get":
		return numbers(2, 2), true
	case "see":
		return form{named: true, least: 2, most: 2}, true
	case "snap", "drop", "back", "differ":
		return form{named: true}, true
	case "resize", "refuse", "stop", "tree", "lost", "odd":
		return numbers(1, 1), true
	case "dry", "trim", "squeeze", "mend", "compact", "recover", "check", "list", "parts", "length":
		return form{}, true
	}
	return form{}, false
}

// check: has it the form of its word's orders? A Player may be handed what Parse didn't make.
func (o Order) check() api.Errno {
	f, known := formOf(o.Word)
	if !known {
		return api.ErrName
	}
	if f.named != (o.Name != "") || len(o.Nums) < f.least || len(o.Nums) > f.most {
		return api.ErrArg
	}
	return api.OK
}

// Parse: a script's orders; else the line that is wrong, from 1 on. Lines without a word, and what stands behind a #, are nothing.
func Parse(text string) ([]Order, int, api.Errno) {
	if len(text) > api.MaxText {
		return nil, 0, api.ErrBig
	}
	var list []Order
	for i, l := range strings.Split(text, lineEnd) {
		said, _, _ := strings.Cut(l, remark)
		words := strings.Fields(said)
		if len(words) == 0 {
			continue
		}
		if len(list) == Most {
			return nil, i + 1, api.ErrBig
		}
		o, e := parseOrder(words)
		if e != api.OK {
			return nil, i + 1, e
		}
		list = append(list, o)
	}
	return list, 0, api.OK
}

// parseOrder: the order of a line's words, one at least.
func parseOrder(words []string) (Order, api.Errno) {
	o, rest := Order{Word: words[0]}, words[1:]
	f, known := formOf(o.Word)
	if !known {
		return Order{}, api.ErrName
	}
	if f.named && len(rest) > 0 {
		o.Name, rest = rest[0], rest[1:]
	}
	for _, w := range rest {
		n, e := parseNumber(w)
		if e != api.OK {
			return Order{}, e
		}
		o.Nums = append(o.Nums, n)
	}
	if e := o.check(); e != api.OK {
		return Order{}, e
	}
	return o, api.OK
}

// parseNumber: the number that a word is. It is written in one way alone, so that an
// order is shown as it was.
func parseNumber(word string) (int64, api.Errno) {
	n, err := strconv.ParseInt(word, 10, 64)
	if err != nil || n < -furthest || n > furthest || number(n) != word {
		return 0, api.ErrArg
	}
	return n, api.OK
}

// Show: an order's line.
func (o Order) Show() string {
	words := []string{o.Word}
	if o.Name != "" {
		words = append(words, o.Name)
	}
	for _, n := range o.Nums {
		words = append(words, number(n))
	}
	return line(words...)
}
