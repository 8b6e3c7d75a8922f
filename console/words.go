package console

import (
	"strconv"
	"strings"

	"fettle/api"
)

// done is what an order answers that has nothing to tell.
const done = "ok"

// number: how a number is told.
func number[N ~int | ~int64 | ~uint32](n N) string {
	return strconv.FormatInt(int64(n), 10)
}

// line: words, a blank between.
func line(words ...string) string {
	return strings.Join(words, " ")
}

// failed: what is told of an error.
func failed(e api.Errno) string {
	return line("error", number(e))
}

// span: how bytes from a place up to one are told.
func span(x api.Ext) string {
	return number(x.From) + "-" + number(x.To)
}

// spans: likewise those of a list, as one text; of none it is empty, as a word may be.
func spans(list []api.Ext) string {
	var words []string
	for _, x := range list {
		words = append(words, span(x))
	}
	return line(words...)
}

// counted: what an order tells that does something so many times.
func counted(word string, n int, e api.Errno) (string, api.Errno) {
	return line(word, number(n)), e
}

// cut: a number, cut to 0 to the most.
func cut(n, most int64) int {
	return int(min(max(n, 0), most))
}
