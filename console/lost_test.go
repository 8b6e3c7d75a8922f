package console_test

import (
	"fmt"
	"math/rand"
	"slices"
	"strings"
	"testing"

	"fettle/console"
)

// shown is what a player's disks show: the active one, each snapshot, and the trees of the
// first two partitions.
type shown struct {
	active string
	snaps  map[string]string
	trees  [2]string
}

func look(t *testing.T, p *console.Player) shown {
	t.Helper()
	s := shown{active: do(t, p, "get 0 153600"), snaps: map[string]string{}, trees: [2]string{do(t, p, "tree 0"), do(t, p, "tree 1")}}
	for _, name := range strings.Fields(do(t, p, "list"))[2:] {
		s.snaps[name] = do(t, p, "see "+name+" 0 153600")
	}
	return s
}

// stays: what must, whatever comes of an order: each snapshot but that of the order; the
// active disk, unless the order writes on it; behind trim and resize its trees.
func (was shown) stays(t *testing.T, o console.Order, is string, now shown) {
	t.Helper()
	for name, want := range was.snaps {
		if got, there := now.snaps[name]; got != want && (there || o.Word != "drop" || o.Name != name || is != "ok" && is != "error 5") {
			t.Fatalf("%s: %s: the snapshot %s was %s, is %q", o.Show(), is, name, want, got)
		}
	}
	for name, got := range now.snaps {
		if _, there := was.snaps[name]; !there && (o.Word != "snap" || o.Name != name || got != was.active) {
			t.Fatalf("%s: %s: the snapshot %s has come, with %s", o.Show(), is, name, got)
		}
	}
	writes := strings.Fields("mbr gpt fat ext put mend resize trim")
	switch {
	case o.Word == "back":
		if now.active != was.active && now.active != was.snaps[o.Name] || is == "ok" && now.active != was.snaps[o.Name] {
			t.Fatal(o.Show(), is, "the active disk is neither as it was, nor the snapshot")
		}
	case !slices.Contains(writes, o.Word) && now.active != was.active, strings.HasPrefix(is, "error") && is != "error 5" && is != "error 15" && now.active != was.active:
		t.Fatal(o.Show(), is, "the active disk has changed")
	case (o.Word == "trim" || o.Word == "resize") && now.trees != was.trees:
		t.Fatal(o.Show(), is, "the trees have changed:", was.trees, now.trees)
	}
}

// TestNothingLost: any orders, some refused, some with a crash behind them: what must stay
// does.
func TestNothingLost(t *testing.T) {
	t.Parallel()
	errors := 0
	for seed := range int64(9) {
		r := rand.New(rand.NewSource(seed))
		p := laid(t, []string{mbrLine, gptLine, "mbr 12 8 64 131 100 160"}[seed%3])
		for range 120 {
			o := anyOrder(r)
			if o.Word == "make" || o.Word == "refuse" || o.Word == "stop" || o.Word == "crash" {
				continue
			}
			was := look(t, p)
			switch r.Intn(4) {
			case 0:
				says(t, p, fmt.Sprint("refuse ", 1+r.Intn(1<<(1+r.Intn(11)))), "ok")
			case 1:
				says(t, p, fmt.Sprint("stop ", 1+r.Intn(1<<(1+r.Intn(11)))), "ok")
			}
			is := p.Do(o)
			if is == "error 5" {
				errors++
			}
			says(t, p, "refuse 0", "ok")
			if p.Tool().Broken() || r.Intn(3) == 0 {
				if r.Intn(2) == 0 {
					do(t, p, "crash"+keeps()[r.Intn(6)])
				}
				says(t, p, "recover", "ok")
			}
			was.stays(t, o, is, look(t, p))
		}
	}
	if errors < 50 {
		t.Error("too few were refused:", errors)
	}
}
