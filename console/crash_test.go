package console_test

import (
	"fmt"
	"slices"
	"strings"
	"testing"

	"fettle/api"
	"fettle/console"
)

// world: a file with an image that has volumes of both kinds, snapshots, and clusters that
// can be given back, behind some lines more.
func world(t *testing.T, more ...string) []byte {
	t.Helper()
	p := goes(t, slices.Concat(
		[]string{"make 9 71680 400", "mbr 12 4 24 131 40 60", "ext 40 30 64 16", "fat 4 24 1"},
		puts(512*4+512*8, pattern(700, 1)), puts(512*100, pattern(900, 2)),
		[]string{"snap a", "put 3000 1 2 3", "put 1500 0", "snap b-2", "put 60000 5", "put 66000 0 0"}, more,
	)...)
	return p.Tool().Bytes()
}

// opened: a player that has a file.
func opened(t *testing.T, b []byte) *console.Player {
	t.Helper()
	p := console.Left(b)
	says(t, p, "recover", "ok")
	return p
}

// looks: what is seen of a world's image but the file's length.
func looks(t *testing.T, p *console.Player) []string {
	t.Helper()
	var list []string
	for _, l := range []string{"list", "check", "get 0 71680", "parts", "tree 0", "tree 1", "see a 0 71680", "see b-2 0 71680"} {
		list = append(list, do(t, p, l))
	}
	return list
}

// keeps: numbers for a crash: nothing is kept, all is, every second one is, the first, all
// but the first.
func keeps() []string {
	all := strings.Repeat(" 1", 40)
	return []string{"", all, strings.Repeat(" 0 7", 20), strings.Repeat(" -1 0", 20), " 1", " 0" + all[2:]}
}

// gone: the power has gone: all but make and recover answer ErrState, and what is left is
// there till a tool has it.
func gone(t *testing.T, p *console.Player) {
	t.Helper()
	if p.Tool() != nil {
		t.Fatal("the tool is still there")
	}
	says(t, p, "list", "error 6", "crash 1", "error 6", "refuse 0", "error 6", "make 9 1 400", "error 11", "put 0 1", "error 6", "length", "error 6")
}

// scene is an order on a world: what is seen without it, and behind it; and, of files that
// were looked at, whether it is done in them.
type scene struct {
	b         []byte
	order     string
	none, all []string
	seen      map[string]bool
	met       map[bool]int
}

func newScene(t *testing.T, b []byte, order string) *scene {
	t.Helper()
	p := opened(t, b)
	s := &scene{b: b, order: order, none: looks(t, p), seen: map[string]bool{}, met: map[bool]int{}}
	says(t, p, order, "ok")
	s.all = looks(t, p)
	if slices.Equal(s.none, s.all) {
		t.Fatal(order, "changes nothing")
	}
	return s
}

// told: whether the order, behind a line that has it refused, says that it is done.
func (s *scene) told(t *testing.T, p *console.Player, line string) bool {
	t.Helper()
	says(t, p, line, "ok")
	is := do(t, p, s.order)
	if is != "ok" && is != "error 5" {
		t.Fatal(s.order, line, is)
	}
	return is == "ok"
}

// is: behind recover the order is done, or not begun; done, if it was said to be.
func (s *scene) is(t *testing.T, p *console.Player, told bool) {
	t.Helper()
	says(t, p, "recover", "ok", "recover", "ok")
	key := string(p.Tool().Bytes())
	done, known := s.seen[key]
	if !known {
		now := looks(t, p)
		done = slices.Equal(now, s.all)
		s.seen[key] = done
		if !done && !slices.Equal(now, s.none) {
			t.Fatalf("%s: neither done nor not begun: %v", s.order, now)
		}
	}
	if told && !done {
		t.Fatal(s.order, "it was done, and is lost")
	}
	s.met[done]++
}

// TestCutOff: an order that is cut off by a crash, at any operation, with nothing kept,
// some or all; or that is refused there, and recovered: it is done, or not begun.
func TestCutOff(t *testing.T) {
	t.Parallel()
	b := world(t)
	for _, order := range []string{"put 70000 1 2 3", "put 510 85 170 9", "snap c", "drop a", "back a", "resize 64", "resize 50", "gpt 4 27 40 99", "mbr 12 4 24"} {
		s := newScene(t, b, order)
		for n, done := 1, false; !done; n++ {
			for _, keep := range keeps() {
				p := opened(t, b)
				done = s.told(t, p, fmt.Sprint("stop ", n))
				size := len(p.Tool().Crash())
				if left := do(t, p, "crash"+keep); keep == "" && left != fmt.Sprint("left ", size) {
					t.Fatal(order, n, left, size)
				}
				if n%16 == 1 {
					gone(t, p)
				}
				s.is(t, p, done)
			}
			p := opened(t, b)
			told := s.told(t, p, fmt.Sprint("refuse ", n))
			says(t, p, "refuse 0", "ok")
			s.is(t, p, told)
		}
		if s.met[true] == 0 || s.met[false] == 0 {
			t.Error(order, "is always done, or never:", s.met)
		}
	}
}

// TestStepsCutOff: orders that are done step by step, cut off likewise: what the disks show
// stays, and done again they come to the same.
func TestStepsCutOff(t *testing.T) {
	t.Parallel()
	for _, order := range []string{"trim", "squeeze", "compact"} {
		b := world(t, "drop a", "drop b-2")
		p := opened(t, b)
		was := do(t, p, "get 0 71680")
		if is := do(t, p, order); strings.HasPrefix(is, "error") || strings.Contains(is, " 0") {
			t.Fatal(order, is)
		}
		all := looks(t, p)
		for n, last := 1, false; !last; n++ {
			p := opened(t, b)
			says(t, p, fmt.Sprint("stop ", n), "ok")
			last = do(t, p, order) != "error 5"
			do(t, p, "crash"+keeps()[n%6])
			says(t, p, "recover", "ok")
			if order != "trim" {
				says(t, p, "get 0 71680", was)
			}
			if p.Tool().Len() > int64(len(b)) || strings.HasPrefix(do(t, p, "check"), "error") {
				t.Fatal(order, n, "isn't right, or longer")
			}
			do(t, p, order)
			if now := looks(t, p); !slices.Equal(now, all) {
				t.Fatal(order, n, now, all)
			}
		}
	}
}

// TestKept: of the writes that wait at a crash those whose number isn't 0 are kept.
func TestKept(t *testing.T) {
	for bits := range 8 {
		p := goes(t, "make 9 65536 400")
		f := p.Tool().File
		f.Write(1536, slices.Repeat([]byte{7}, 1536)) // three writes, in the journal's body: of no account
		want := slices.Clone(f.Crash(bits&1 > 0, bits&2 > 0, bits&4 > 0))
		says(t, p, fmt.Sprintf("crash %d %d %d 1", bits&1*5, -(bits&2), int64(bits&4)<<30), fmt.Sprint("left ", len(want)), "recover", "ok")
		if string(p.Tool().Bytes()) != string(want) {
			t.Error(bits, "others were kept")
		}
	}
	p := goes(t, "make 9 65536 400")
	p.Tool().File.Truncate(40000)
	says(t, p, "length", "length 40000", "crash 0 1", "left 17408", "recover", "ok", "length", "length 17408")
	p.Tool().File.Truncate(40000)
	says(t, p, "crash 1", "left 40000", "recover", "ok", "length", "length 40000")
}

// TestLeft: what is left stays, also behind a make that is refused, till there is a tool.
func TestLeft(t *testing.T) {
	b := world(t)
	p := opened(t, b)
	was := looks(t, p)
	do(t, p, "crash")
	gone(t, p)
	says(t, p, "recover", "ok")
	if !slices.Equal(looks(t, p), was) {
		t.Error("something is lost")
	}
	do(t, p, "crash")
	says(t, p, "make 9 65536 400", "ok", "check", "clusters 34 0", "recover", "ok", "check", "clusters 34 0")
	// What is left, and isn't a right image, isn't opened; it stays, too.
	if e := p.Tool().File.Write(0, []byte{0}); e != 0 {
		t.Fatal(e)
	}
	says(t, p, "crash 1", "left 17408", "recover", "error 10", "list", "error 6", "recover", "error 10", "make 9 512 400", "ok", "list", "snapshots 0")
}

// TestBroken: behind an order that the tool was refused all that look at the image answer
// ErrState, and all that change it, till recover is done.
func TestBroken(t *testing.T) {
	b := world(t)
	for _, order := range []string{"snap c", "drop a", "back a", "put 0 1", "mbr", "gpt", "fat 0 16 1", "ext 0 30 64 16", "resize 60", "dry", "trim", "squeeze", "mend", "compact"} {
		p := opened(t, b)
		was := looks(t, p)
		says(t, p, "refuse 1", "ok", order, "error 5")
		ops, length := p.Tool().Ops(), p.Tool().Len()
		for _, l := range strings.Split("get 0 1,get -1 0,see a 0 1,see x 0 1,list,parts,check,length,dry,differ a,differ x,tree 0,tree -1,lost 0,lost 9,odd 0,odd 1,odd 9,"+
			"snap c,snap A,drop x,back x,put 0 1,put,put -1 1,mbr,gpt 4 27,fat 0 16 1,ext 0 30 64 16,resize 60,resize -1,trim,squeeze,mend,compact", ",") {
			says(t, p, l, "error 6")
		}
		// What isn't written isn't looked at: it can't be made.
		says(t, p, "mbr 12 -1 1", "error 20", "gpt 4 200", "error 4", "fat 0 16 3", "error 11", "fat 130 16 1", "error 4", "fat -1 16 1", "error 4", "ext 0 8 64 16", "error 18")
		if p.Tool().Ops() != ops || p.Tool().Len() != length {
			t.Fatal(order, "something was asked for")
		}
		says(t, p, "stop 1", "ok", "recover", "error 5", "list", "error 6", "stop 0", "ok", "refuse 2", "ok", "recover", "error 5", "refuse 0", "ok", "check", "error 6", "recover", "ok")
		if !slices.Equal(looks(t, p), was) {
			t.Fatal(order, "something has changed")
		}
	}
	p := opened(t, b)
	says(t, p, "refuse 1", "ok", "snap c", "error 5", "make 9 512 400", "ok", "list", "snapshots 0") // a tool of its own
	p = opened(t, b)
	was := looks(t, p)
	says(t, p, "refuse 1", "ok", "snap c", "error 5", "crash 1 1 1", fmt.Sprint("left ", p.Tool().Len()), "recover", "ok")
	if !slices.Equal(looks(t, p), was) {
		t.Error("something is lost")
	}
}

// TestLookRefused: an order that looks at the image by itself, and is refused, doesn't
// break the tool; check and length ask the file for nothing.
func TestLookRefused(t *testing.T) {
	b := world(t)
	p := opened(t, b)
	for _, l := range strings.Split("get 0 9,see a 0 9,list,parts,differ a,tree 0,tree 1,lost 0,lost 1,odd 1", ",") {
		want := do(t, p, l)
		if strings.HasPrefix(want, "error") {
			t.Fatal(l, want)
		}
		ops := p.Tool().Ops()
		do(t, p, l)
		for n := range p.Tool().Ops() - ops {
			says(t, p, fmt.Sprint("refuse ", n+1), "ok", l, "error 5")
		}
		says(t, p, "stop 1", "ok", l, "error 5", l, "error 5", "stop 0", "ok", l, want)
	}
	says(t, p, "stop 1", "ok", "length", fmt.Sprint("length ", p.Tool().Len()), "refuse 1", "ok")
	if is := do(t, p, "check"); strings.HasPrefix(is, "error") {
		t.Error(is)
	}
	says(t, p, "get 0 1", "error 5", "odd 0", "error 6")
	// odd of a volume that isn't of its kind: what is refused isn't known of it.
	ops := p.Tool().Ops()
	do(t, p, "odd 0")
	for n := range p.Tool().Ops() - ops {
		says(t, p, fmt.Sprint("refuse ", n+1), "ok", "odd 0", "error 5")
	}
}

// TestRefuse: numbers are cut to 0 to MaxOps; what was said ahead is forgotten.
func TestRefuse(t *testing.T) {
	for _, word := range []string{"refuse", "stop"} {
		for _, n := range []string{"0", "-1", "-1099511627776", "65536", "65537", "1099511627776", "4294967297"} {
			p := goes(t, "make 9 65536 400", "refuse 1", "stop 1", word+" "+n)
			says(t, p, "put 0 1", "ok", "get 0 1", told([]byte{1}))
		}
		p := goes(t, "make 9 65536 400", word+" 1099511627776") // as MaxOps
		for n := range api.MaxOps + 1 {
			_, e := p.Tool().Read(0, 0)
			if stopped := n == api.MaxOps-1 || n == api.MaxOps && word == "stop"; (e == api.ErrIO) != stopped {
				t.Fatal(word, n, e)
			}
		}
		says(t, goes(t, "make 9 65536 400", word+" 1"), "put 0 1", "error 5", "put 0 1", "error 6")
	}
}
