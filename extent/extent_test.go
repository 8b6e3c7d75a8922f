package extent_test

import (
	"iter"
	"math"
	"math/rand"
	"slices"
	"testing"

	"fettle/api"
	"fettle/extent"
)

type (
	ext = api.Ext
	set = extent.Set
)

// The signatures that the document lists.
var (
	_ func(...ext) set                  = extent.Norm
	_ func(...set) set                  = extent.Union
	_ func(set, set) set                = set.Meet
	_ func(set, set) set                = set.Minus
	_ func(set) iter.Seq2[int, ext]     = set.All
	_ func(set, int64) bool             = set.Has
	_ func(set, ext) bool               = set.Covers
	_ func(set, set) bool               = set.Within
	_ func(set) int64                   = set.Bytes
	_ func(set, int64) (set, api.Errno) = set.Inward
	_ func(set, int64) set              = set.Moved
	_ func(...ext) bool                 = extent.Apart
	_ []ext                             = set{}
)

const most = int64(1) << 60

func part(from, to int64) ext { return ext{From: from, To: to} }

// of: a list of parts, by where each begins and ends.
func of(ends ...int64) set {
	var l set
	for i := 0; i+1 < len(ends); i += 2 {
		l = append(l, part(ends[i], ends[i+1]))
	}
	return l
}

// half: the model's places are -half to half - 1, the parts' numbers -reach to reach.
const (
	half  = 64
	reach = 12
)

// model is a set as a row of answers: is the byte in it?
type model [2 * half]bool

func modelOf(parts []ext) model {
	var m model
	for _, x := range parts {
		for at := x.From; at < x.To; at++ {
			m[at+half] = true
		}
	}
	return m
}

// parts: the model's bytes as the longest runs, which is the one form.
func (m model) parts() []ext {
	var l []ext
	for at := range m {
		if !m[at] {
			continue
		}
		if at == 0 || !m[at-1] {
			l = append(l, ext{From: int64(at) - half})
		}
		l[len(l)-1].To = int64(at) - half + 1
	}
	return l
}

// both: what a question answers of each byte of two models.
func both(a, b model, ask func(a, b bool) bool) model {
	var m model
	for i := range m {
		m[i] = ask(a[i], b[i])
	}
	return m
}

func (m model) count() int64 {
	n := int64(0)
	for _, in := range m {
		if in {
			n++
		}
	}
	return n
}

// inward: each unit is asked by itself, whether all its bytes are in.
func (m model) inward(unit int64) model {
	var out model
	for k := -half/unit - 1; k <= half/unit+1; k++ {
		in := true
		for at := k * unit; at < (k+1)*unit; at++ {
			in = in && at >= -half && at < half && m[at+half]
		}
		for at := k * unit; in && at < (k+1)*unit; at++ {
			out[at+half] = true
		}
	}
	return out
}

func (m model) moved(by int64) model {
	var out model
	for i, in := range m {
		if in {
			out[int64(i)+by] = true
		}
	}
	return out
}

// apart: each byte is in one part at most.
func apart(parts []ext) bool {
	var n [2 * half]int
	for _, x := range parts {
		for at := x.From; at < x.To; at++ {
			n[at+half]++
			if n[at+half] > 1 {
				return false
			}
		}
	}
	return true
}

func check(t *testing.T, name string, got set, want model) {
	t.Helper()
	if !slices.Equal([]ext(got), want.parts()) {
		t.Fatalf("%s: %v, want %v", name, got, want.parts())
	}
}

func gathered(t *testing.T, name string, all iter.Seq2[int, ext]) []ext {
	t.Helper()
	var l []ext
	for i, x := range all {
		if i != len(l) {
			t.Fatalf("%s: the part %v has the number %d, want %d", name, x, i, len(l))
		}
		l = append(l, x)
	}
	return l
}

// guarded: a list within a longer one, whose other items its spare room reaches.
func guarded(parts []ext) (whole []ext, l set) {
	whole = append(whole, ext{From: 91, To: 92})
	whole = append(whole, parts...)
	for i := range int64(8) {
		whole = append(whole, ext{From: 100 + 3*i, To: 101 + 3*i})
	}
	return whole, set(whole[1 : 1+len(parts)])
}

// checkOne holds the calls of one set against the model.
func checkOne(t *testing.T, s set) {
	t.Helper()
	m := modelOf(s)
	check(t, "Norm", extent.Norm(s...), m)
	check(t, "Union of one", extent.Union(s), m)
	if l := gathered(t, "All", s.All()); !slices.Equal(l, m.parts()) {
		t.Fatalf("All of %v: %v", s, l)
	}
	if n := s.Bytes(); n != m.count() {
		t.Fatalf("Bytes of %v: %d, want %d", s, n, m.count())
	}
	for at := int64(-reach - 3); at <= reach+3; at++ {
		if s.Has(at) != m[at+half] {
			t.Fatalf("Has of %v, %d: %t", s, at, s.Has(at))
		}
	}
	if extent.Apart(s...) != apart(s) {
		t.Fatalf("Apart of %v: %t", s, extent.Apart(s...))
	}
}

// checkNumbers holds the calls of a set with a number, or a part, against the model.
func checkNumbers(t *testing.T, s set) {
	t.Helper()
	m := modelOf(s)
	for unit := int64(1); unit <= 2*reach+3; unit++ {
		got, e := s.Inward(unit)
		if e != api.OK {
			t.Fatalf("Inward of %v by %d: error %d", s, unit, e)
		}
		check(t, "Inward", got, m.inward(unit))
	}
	for by := int64(-reach); by <= reach; by++ {
		check(t, "Moved", s.Moved(by), m.moved(by))
	}
	for from := int64(-reach - 1); from <= reach+1; from++ {
		for to := from - 2; to <= reach+2; to++ {
			x := ext{From: from, To: to}
			in := both(modelOf([]ext{x}), m, func(a, b bool) bool { return a && !b }).count() == 0
			if s.Covers(x) != in {
				t.Fatalf("Covers of %v, %v: %t", s, x, s.Covers(x))
			}
		}
	}
}

// checkTwo holds the calls of two sets against the model.
func checkTwo(t *testing.T, s, u set) {
	t.Helper()
	a, b := modelOf(s), modelOf(u)
	less := both(a, b, func(a, b bool) bool { return a && !b })
	check(t, "Union", extent.Union(s, u), both(a, b, func(a, b bool) bool { return a || b }))
	check(t, "Meet", s.Meet(u), both(a, b, func(a, b bool) bool { return a && b }))
	check(t, "Minus", s.Minus(u), less)
	if s.Within(u) != (less.count() == 0) {
		t.Fatalf("Within of %v, %v: %t", s, u, s.Within(u))
	}
}

// anyList: parts in any order, some without a byte, some that end ahead of their beginning.
func anyList(r *rand.Rand, count int, reach int64) set {
	l := make(set, count)
	for i := range l {
		from := r.Int63n(2*reach+1) - reach
		to := from + r.Int63n(9) - 2
		l[i] = ext{From: from, To: min(to, reach)}
	}
	return l
}

func TestExamples(t *testing.T) {
	got := extent.Norm(part(5, 7), part(0, 3), part(3, 4))
	if !slices.Equal(got, of(0, 4, 5, 7)) {
		t.Error("Norm:", got)
	}
	in, e := of(1, 9).Inward(4)
	if e != api.OK || !slices.Equal(in, of(4, 8)) {
		t.Error("Inward:", in, e)
	}
}

func TestNothing(t *testing.T) {
	empties := []set{nil, {}, of(0, 0), of(5, 5, -3, -3), of(9, 2, most, -most)}
	for _, s := range empties {
		in, e := s.Inward(1)
		for _, l := range []set{extent.Norm(s...), extent.Union(s), extent.Union(s, s), s.Meet(of(0, 9)), s.Minus(nil), s.Moved(3), of(0, 9).Meet(s), in} {
			if len(l) != 0 {
				t.Errorf("of %v: %v", s, l)
			}
		}
		if e != api.OK || s.Bytes() != 0 || s.Has(0) || s.Has(5) || !s.Within(nil) || !s.Within(of(1, 2)) || !extent.Apart(s...) {
			t.Errorf("of %v: a wrong answer", s)
		}
		if s.Covers(part(0, 1)) || !s.Covers(part(4, 4)) || !s.Covers(part(4, 3)) || of(0, 1).Within(s) {
			t.Errorf("of %v: Covers, Within", s)
		}
		if got := of(0, 9).Minus(s); !slices.Equal(got, of(0, 9)) {
			t.Errorf("less %v: %v", s, got)
		}
		if l := gathered(t, "All", s.All()); len(l) != 0 {
			t.Errorf("All of %v: %v", s, l)
		}
	}
	if len(extent.Norm()) != 0 || len(extent.Union()) != 0 || !extent.Apart() {
		t.Error("of no part")
	}
}

func TestAllShortLists(t *testing.T) {
	var parts []ext
	for from := int64(-2); from <= 3; from++ {
		for to := int64(-2); to <= 3; to++ {
			parts = append(parts, ext{From: from, To: to})
		}
	}
	for _, x := range parts {
		checkOne(t, set{x})
		checkNumbers(t, set{x})
		for _, y := range parts {
			checkOne(t, set{x, y})
			checkTwo(t, set{x}, set{y})
			for _, z := range parts {
				checkTwo(t, set{x, y}, set{z})
				checkTwo(t, set{z}, set{x, y})
				if l := []ext{x, y, z}; extent.Apart(l...) != apart(l) {
					t.Fatalf("Apart of %v", l)
				}
			}
		}
	}
}

func TestAnyLists(t *testing.T) {
	r := rand.New(rand.NewSource(3))
	for range 3000 {
		s, u, v := anyList(r, r.Intn(9), reach), anyList(r, r.Intn(9), reach), anyList(r, r.Intn(4), reach)
		checkOne(t, s)
		checkTwo(t, s, u)
		a := both(modelOf(s), modelOf(u), func(a, b bool) bool { return a || b })
		check(t, "Union of three", extent.Union(s, u, v), both(a, modelOf(v), func(a, b bool) bool { return a || b }))
	}
	for range 60 {
		checkNumbers(t, anyList(r, r.Intn(7), reach))
	}
}

func TestOrderIsNothing(t *testing.T) {
	r := rand.New(rand.NewSource(4))
	for range 200 {
		s := anyList(r, 8, reach)
		want, parted := extent.Norm(s...), extent.Apart(s...)
		r.Shuffle(len(s), func(i, k int) { s[i], s[k] = s[k], s[i] })
		if got := extent.Norm(s...); !slices.Equal(got, want) || extent.Apart(s...) != parted {
			t.Fatalf("%v: %v, want %v", s, got, want)
		}
	}
}

func TestTouching(t *testing.T) {
	if got := extent.Norm(part(0, 3), part(3, 6), part(7, 8)); !slices.Equal(got, of(0, 6, 7, 8)) {
		t.Error("Norm:", got)
	}
	if !extent.Apart(part(0, 3), part(3, 6), part(-2, 0)) || extent.Apart(part(0, 3), part(2, 6)) || extent.Apart(part(0, 3), part(0, 3)) {
		t.Error("Apart: parts that touch, or meet")
	}
	if !extent.Apart(part(0, 9), part(4, 4), part(5, 2)) || extent.Apart(part(0, 9), part(10, 11), part(4, 5)) {
		t.Error("Apart: a part inside another")
	}
	two := of(4, 8, 0, 4)
	if !two.Covers(part(0, 8)) || two.Covers(part(0, 9)) || two.Covers(part(-1, 8)) || !of(2, 6).Within(two) {
		t.Error("a part over two that touch")
	}
	if got, e := two.Inward(8); e != api.OK || !slices.Equal(got, of(0, 8)) {
		t.Error("Inward: a unit over two that touch:", got, e)
	}
}

func TestInwardRefusesUnits(t *testing.T) {
	for _, unit := range []int64{0, -1, -2, -512, -most, math.MinInt64 + 1, math.MinInt64} {
		for _, s := range []set{nil, of(0, 100), of(5, 3)} {
			if got, e := s.Inward(unit); e != api.ErrArg || len(got) != 0 {
				t.Errorf("Inward of %v by %d: %v %d", s, unit, got, e)
			}
		}
	}
}

func TestInwardBelowNought(t *testing.T) {
	for _, c := range []struct {
		s    set
		unit int64
		want set
	}{
		{of(-9, -1), 4, of(-8, -4)},
		{of(-9, 9), 4, of(-8, 8)},
		{of(-3, 3), 4, nil},
		{of(-4, 4), 4, of(-4, 4)},
		{of(-5, -1, 0, 4), 4, of(0, 4)},
		{of(-most, most), most, of(-most, most)},
		{of(-most, most), most - 1, of(1-most, most-1)},
		{of(1-most, most), most, of(0, most)},
		{of(-most, most-1), most, of(-most, 0)},
		{of(1-most, most-1), most, nil},
		{of(1-most, most-1), 1, of(1-most, most-1)},
		{of(most-5, most), 512, nil},
		{of(most-513, most), 512, of(most-512, most)},
		{of(-most, 513-most), 512, of(-most, 512-most)},
	} {
		if got, e := c.s.Inward(c.unit); e != api.OK || !slices.Equal(got, c.want) {
			t.Errorf("Inward of %v by %d: %v %d, want %v", c.s, c.unit, got, e, c.want)
		}
	}
}

func TestGreatNumbers(t *testing.T) {
	whole := of(-most, most)
	if whole.Bytes() != 2*most || !whole.Has(-most) || whole.Has(most) || whole.Has(-most-1) || !whole.Has(most-1) {
		t.Error("Bytes, Has")
	}
	if got := whole.Minus(of(0, 1)); !slices.Equal(got, of(-most, 0, 1, most)) || got.Bytes() != 2*most-1 {
		t.Error("Minus:", got)
	}
	if got := whole.Meet(of(most-1, most, -most, 1-most)); !slices.Equal(got, of(-most, 1-most, most-1, most)) {
		t.Error("Meet:", got)
	}
	if got := extent.Union(of(0, most), of(-most, 0)); !slices.Equal(got, whole) {
		t.Error("Union:", got)
	}
	if got := of(-most, 0).Moved(most); !slices.Equal(got, of(0, most)) {
		t.Error("Moved:", got)
	}
	if got := of(0, 1, most-1, most).Moved(-most); !slices.Equal(got, of(-most, 1-most, -1, 0)) {
		t.Error("Moved back:", got)
	}
	if !whole.Covers(part(-most, most)) || of(1-most, most).Covers(whole[0]) || !whole.Within(whole) {
		t.Error("Covers, Within")
	}
	many := make([]ext, 64) // whose bytes, added up, would wrap round
	for i := range many {
		many[i] = whole[0]
	}
	if extent.Apart(many...) || extent.Norm(many...).Bytes() != 2*most || set(many).Bytes() != 2*most {
		t.Error("the same part 64 times")
	}
}

// TestAsSetsDo: laws that hold of all sets, over parts whose numbers are far apart.
func TestAsSetsDo(t *testing.T) {
	r := rand.New(rand.NewSource(5))
	ends := []int64{-most, 1 - most, -1 << 32, -513, -512, -1, 0, 1, 511, 512, 4096, 1 << 31, 1<<40 + 1, most - 1, most}
	list := func() set {
		l := make(set, r.Intn(6))
		for i := range l {
			l[i] = ext{From: ends[r.Intn(len(ends))], To: ends[r.Intn(len(ends))]}
		}
		return l
	}
	same := func(name string, a, b set) {
		t.Helper()
		if !slices.Equal(a, b) {
			t.Fatalf("%s: %v, %v", name, a, b)
		}
	}
	for range 4000 {
		a, b, c := list(), list(), list()
		join, meet, less := extent.Union(a, b), a.Meet(b), a.Minus(b)
		same("Norm again", extent.Norm(join...), join)
		same("Union, the other way", join, extent.Union(b, a))
		same("Meet, the other way", meet, b.Meet(a))
		same("Union of three", extent.Union(join, c), extent.Union(a, b, c))
		same("Meet of three", meet.Meet(c), a.Meet(b.Meet(c)))
		same("Meet over Union", join.Meet(c), extent.Union(a.Meet(c), b.Meet(c)))
		same("what is in both, and the rest", extent.Union(meet, less), extent.Norm(a...))
		same("less twice", less.Minus(c), a.Minus(extent.Union(b, c)))
		same("nothing is in both", less.Meet(b), nil)
		same("of itself", extent.Union(a, a), a.Meet(a))
		same("less itself", a.Minus(a), nil)
		if join.Bytes()+meet.Bytes() != a.Bytes()+b.Bytes() || less.Bytes()+meet.Bytes() != a.Bytes() {
			t.Fatalf("Bytes of %v, %v", a, b)
		}
		if !meet.Within(a) || !meet.Within(b) || !a.Within(join) || !b.Within(join) || !less.Within(a) {
			t.Fatalf("Within of %v, %v", a, b)
		}
		if a.Within(b) != (len(less) == 0) || extent.Apart(join...) != true {
			t.Fatalf("Within, Apart of %v, %v", a, b)
		}
		for _, at := range ends {
			if join.Has(at) != (a.Has(at) || b.Has(at)) || meet.Has(at) != (a.Has(at) && b.Has(at)) || less.Has(at) != (a.Has(at) && !b.Has(at)) {
				t.Fatalf("Has of %v, %v at %d", a, b, at)
			}
			if a.Covers(part(at, at+1)) != a.Has(at) {
				t.Fatalf("Covers of %v at %d", a, at)
			}
		}
	}
}

// calls: all calls of two sets, each with the list that it answers.
func calls(s, u set) []func() []ext {
	return []func() []ext{
		func() []ext { return extent.Norm(s...) },
		func() []ext { return extent.Union(s, u) },
		func() []ext { return extent.Union(s) },
		func() []ext { return s.Meet(u) },
		func() []ext { return s.Minus(u) },
		func() []ext { return s.Moved(0) },
		func() []ext { l, _ := s.Inward(1); return l },
		func() []ext { l, _ := s.Inward(3); return l },
		func() []ext {
			s.Has(3)
			s.Covers(part(1, 4))
			s.Within(u)
			s.Bytes()
			extent.Apart(s...)
			return nil
		},
		func() []ext {
			for range s.All() {
			}
			return nil
		},
	}
}

func TestNothingHandedInIsChanged(t *testing.T) {
	r := rand.New(rand.NewSource(6))
	lists := []set{of(5, 7, 0, 3, 3, 4), of(0, 2, 4, 6), of(0, 9), of(3, 1, 2, 2), {}}
	for range 40 {
		lists = append(lists, anyList(r, r.Intn(6), reach))
	}
	for _, a := range lists {
		for _, b := range lists[:8] {
			wholeA, s := guarded(a)
			wholeB, u := guarded(b)
			aheadA, aheadB := slices.Clone(wholeA), slices.Clone(wholeB)
			for i, call := range calls(s, u) {
				got := call()
				want := slices.Clone(got)
				got = got[:cap(got)]
				for k := range got { // an answer may be written over: it is new memory
					got[k] = ext{From: -77, To: 77}
				}
				if !slices.Equal(wholeA, aheadA) || !slices.Equal(wholeB, aheadB) {
					t.Fatalf("call %d of %v, %v: what was handed in is changed", i, a, b)
				}
				if again := call(); !slices.Equal(again, want) {
					t.Fatalf("call %d of %v, %v: %v, then %v", i, a, b, want, again)
				}
			}
		}
	}
}

func TestUnionLeavesTheListOfSets(t *testing.T) {
	sets := []set{of(3, 5, 0, 1), of(2, 3), of(9, 9)}
	if got := extent.Union(sets...); !slices.Equal(got, of(0, 1, 2, 5)) {
		t.Error(got)
	}
	want := []set{of(3, 5, 0, 1), of(2, 3), of(9, 9)}
	for i := range sets {
		if !slices.Equal(sets[i], want[i]) {
			t.Errorf("set %d is %v", i, sets[i])
		}
	}
}

func TestAllMayBeGoneThroughAgain(t *testing.T) {
	s := of(8, 9, 0, 3, 2, 4, 6, 6, 5, 7)
	all := s.All()
	want := []ext(of(0, 4, 5, 7, 8, 9))
	for leave := range 4 {
		n := 0
		for i, x := range all {
			if n == leave {
				break
			}
			if i != n || x != want[n] {
				t.Fatalf("part %d: %d %v", n, i, x)
			}
			n++
		}
	}
	for range all { // one within the other
		if l := gathered(t, "within", all); !slices.Equal(l, want) {
			t.Fatal(l)
		}
	}
	for i := range s { // the set isn't kept
		s[i] = ext{From: 50, To: 60}
	}
	if l := gathered(t, "behind a change", all); !slices.Equal(l, want) {
		t.Error("All keeps the set:", l)
	}
	if set(nil).All() == nil || (set{}).All() == nil {
		t.Error("All of nothing is nil")
	}
}

// TestExtremes: beyond 2^60 any answer will do, but each call ends, and none panics.
func TestExtremes(t *testing.T) {
	ends := []int64{math.MinInt64, math.MinInt64 + 1, -most - 1, -most, -1, 0, 1, most, most + 1, math.MaxInt64 - 1, math.MaxInt64}
	var parts []ext
	for _, from := range ends {
		for _, to := range ends {
			parts = append(parts, ext{From: from, To: to})
		}
	}
	for _, x := range parts {
		for _, y := range parts {
			s, u := set{x, y}, set{y}
			for _, call := range calls(s, u) {
				call()
			}
			for _, n := range ends {
				s.Has(n)
				s.Moved(n)
				if _, e := s.Inward(n); (e == api.ErrArg) != (n < 1) {
					t.Fatalf("Inward by %d: %d", n, e)
				}
			}
			s.Covers(y)
		}
	}
}

func TestManyParts(t *testing.T) {
	const count = 1 << 17
	l, u := make(set, count), make(set, count)
	for i := range int64(count) {
		l[count-1-i] = ext{From: 4 * i, To: 4*i + 2}
		u[i] = ext{From: 4*i + 1, To: 4*i + 4}
	}
	if n := l.Bytes(); n != 2*count {
		t.Error("Bytes:", n)
	}
	if n := l.Meet(u).Bytes(); n != count {
		t.Error("Meet:", n)
	}
	if n := l.Minus(u).Bytes(); n != count {
		t.Error("Minus:", n)
	}
	if got := extent.Union(l, u); !slices.Equal(got, of(0, 4*count)) {
		t.Error("Union:", len(got))
	}
	if !extent.Apart(l...) || extent.Apart(slices.Concat(l, u)...) || !l.Within(of(0, 4*count)) {
		t.Error("Apart, Within")
	}
}
