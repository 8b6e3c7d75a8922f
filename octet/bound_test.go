package octet

import (
	"math"
	"testing"
)

// The longest answer that is promised, and the first one beyond, without the memory that they take.
func TestLackingAtTheBound(t *testing.T) {
	cases := []struct{ length, size, want int }{
		{2, math.MaxInt32, math.MaxInt32 - 2},
		{math.MaxInt32 - 1, math.MaxInt32, 1},
		{math.MaxInt32, math.MaxInt32, 0},
		{math.MaxInt32 - 1, 1 << 30, 0},
		{2, math.MaxInt32 + 1, 0},
		{2, math.MaxInt, 0},
		{math.MaxInt, math.MaxInt, 0},
		{math.MaxInt, math.MaxInt - 1, 0},
		{math.MaxInt, 2, 0},
		{0, math.MaxInt, 0},
		{5, math.MinInt, 0},
	}
	for _, c := range cases {
		if got := lacking(c.length, c.size); got != c.want {
			t.Errorf("%d bytes to %d: %d, want %d", c.length, c.size, got, c.want)
		}
	}
}
