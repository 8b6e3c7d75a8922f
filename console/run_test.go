package console_test

import (
	"fmt"
	"math/rand"
	"regexp"
	"slices"
	"strings"
	"testing"

	"fettle/api"
	"fettle/console"
)

// TestRun: a script's answers, one for each order; of a text that is none one line.
func TestRun(t *testing.T) {
	for _, c := range []struct {
		text string
		want []string
	}{
		{"", nil},
		{"# nothing\n\n \t", nil},
		{"list", []string{"error 6"}},
		{"recover\nmake 9 65536 400\n\nsnap a # one\nlist\nmake 9 65536 1\nlist", []string{"error 4", "ok", "ok", "snapshots 1 a", "error 11", "snapshots 1 a"}},
		{"make 9 65536 400\nput 0 1\nstop 1\nlist\nsnap a\nlist\nstop 0\nlist\nrecover\nlist\ncrash 1\nlist\nrecover\nget 0 1", []string{
			"ok", "ok", "ok", "error 5", "error 5", "error 6", "ok", "error 6", "ok", "snapshots 0", "left 18432", "error 6", "ok", told([]byte{1})}},
		{"bogus", []string{"error 16 line 1"}},
		{"make 9 65536 400\n\n  get 0 # 5\nbogus", []string{"error 1 line 3"}},
		{strings.Repeat("list\n", 400), slices.Repeat([]string{"error 6"}, 400)},
		{strings.Repeat("\nlist", 401), []string{"error 3 line 402"}},
		{strings.Repeat(" ", 65537), []string{"error 3 line 0"}},
	} {
		if l := console.Run(c.text); !slices.Equal(l, c.want) {
			t.Errorf("%.80q: %q, not %q", c.text, l, c.want)
		}
	}
}

// formed: what each word answers without an error.
var formed = map[string]string{
	"get": `bytes \d+ \d+ \d+`, "see": `bytes \d+ \d+ \d+`, "crash": `left \d+`, "trim": `trimmed \d+ \d+`, "squeeze": `squeezed \d+`, "mend": `mended [04]`, "compact": `moved \d+`,
	"list": `snapshots [0-8]( [a-z0-9_-]{1,16})*`, "parts": `parts [12]( \d+-\d+)*`, "check": `clusters \d+ \d+`, "length": `length \d+`,
	"dry":    `free \d+ \d+ \d+( volume [012] \d+ \d+)* (\d+-\d+)?( \d+-\d+)*`,
	"differ": `differ \d+ (\d+-\d+)?( \d+-\d+)*`, "tree": `tree [12] \d+( ".*" \d+ \d+)+`, "lost": `lost \d+( \d+)*`, "odd": `odd \d+( \d+ \d+ \d+)*`,
}

// script: any orders, of all sizes of images.
func script(r *rand.Rand) string {
	starts := []string{
		"", "make 9 153600 700\nmbr 131 80 140 12 8 64\next 80 70 64 16\nfat 8 64 1\n", "make 9 153600 700\ngpt 8 71 80 219\next 80 70 64 16\nfat 8 64 1\nsnap a\n",
		"make 12 16777216 1024\nmbr 12 1 32767\nfat 1 2000 8\n", "make 9 2097152 8192\next 0 2048 512 64\nmbr 131 0 9\n", "make 10 153600 150\nmbr 12 10 200\nfat 10 200 2\n",
	}
	text := starts[r.Intn(len(starts))]
	for range r.Intn(60) {
		o := anyOrder(r)
		for i, n := range o.Nums {
			o.Nums[i] = max(-1<<40, min(1<<40, n))
		}
		text += o.Show() + "\n"
	}
	return text
}

// TestAnyScript: whatever the script, Run ends, answers each order in its form, and the
// same once more; what its orders show is the same script.
func TestAnyScript(t *testing.T) {
	t.Parallel()
	forms := map[string]*regexp.Regexp{}
	for word, form := range formed {
		forms[word] = regexp.MustCompile("^" + form + "$")
	}
	r := rand.New(rand.NewSource(8))
	for range 60 {
		text := script(r)
		orders, _, e := console.Parse(text)
		if e != api.OK {
			t.Fatal(text, e)
		}
		l := console.Run(text)
		if len(l) != len(orders) {
			t.Fatal(text, l)
		}
		shown := ""
		for i, o := range orders {
			shown += "\t" + o.Show() + " # " + l[i] + "\n\n"
			if e := 0; strings.HasPrefix(l[i], "error ") {
				if n, _ := fmt.Sscanf(l[i], "error %d", &e); n != 1 || l[i] != fmt.Sprint("error ", e) || e < 1 || e > 23 {
					t.Fatal(o.Show(), l[i])
				}
				continue
			}
			if form := forms[o.Word]; form == nil && l[i] != "ok" || form != nil && !form.MatchString(l[i]) {
				t.Fatalf("%s: %q", o.Show(), l[i])
			}
		}
		if again := console.Run(shown); !slices.Equal(again, l) {
			t.Fatalf("%s: %q, not %q", text, again, l)
		}
	}
}

// TestAnyBytes: Run ends, and doesn't panic, whatever the text.
func TestAnyBytes(t *testing.T) {
	r := rand.New(rand.NewSource(9))
	for n := range 3000 {
		b := make([]byte, r.Intn(200))
		r.Read(b)
		text := string(b)
		switch n % 3 {
		case 1:
			text = "make 9 65536 400\n" + anyText(r)
		case 2: // a script some of whose bytes are others
			b = []byte("make 9 65536 400\nmbr 12 8 40\nput 0 1 2 3\nsnap a\nsee a 0 9\nget 0 100\ndry\ntrim\ncrash 1 0\nrecover\ncheck\n")
			for range 1 + r.Intn(3) {
				b[r.Intn(len(b))] = "0123456789-\n #ax\x00\xff"[r.Intn(18)]
			}
			text = string(b)
		}
		l := console.Run(text)
		orders, line, e := console.Parse(text)
		if e != api.OK {
			if want := fmt.Sprint("error ", int(e), " line ", line); len(l) != 1 || l[0] != want {
				t.Fatalf("%q: %q, not %s", text, l, want)
			}
		} else if len(l) != len(orders) {
			t.Fatalf("%q: %q", text, l)
		}
	}
}

// FuzzRun: the same, with what a fuzzer finds.
func FuzzRun(f *testing.F) {
	r := rand.New(rand.NewSource(10))
	for range 20 {
		f.Add(script(r))
		f.Add(anyText(r))
	}
	f.Fuzz(func(t *testing.T, text string) {
		if l := console.Run(text); !slices.Equal(l, console.Run(text)) {
			t.Error("another answer")
		}
	})
}
