package work

import (
	"testing"

	"moneyer/api"
)

func TestWK2Known(t *testing.T) {
	for _, k := range []struct{ bits, took, want, next int }{
		{5, 0, 10, 6},
		{5, 1, 10, 6},
		{5, 4, 10, 6},
		{5, 5, 10, 6}, // twice 5 is no more than 10
		{5, 6, 10, 5},
		{5, 10, 10, 5},
		{5, 19, 10, 5},
		{5, 20, 10, 4}, // twice 10
		{5, 21, 10, 4},
		{5, 1000, 10, 4},
		{5, 5, 11, 6},
		{5, 6, 11, 5},
		{5, 5, 9, 5},
		{5, 4, 9, 6},
		{5, 17, 9, 5},
		{5, 18, 9, 4},
		{5, 0, 1, 6},
		{5, 1, 1, 5},
		{5, 2, 1, 4},
		{5, 3, 1, 4},
		{5, 0, 2, 6},
		{5, 1, 2, 6},
		{5, 2, 2, 5},
		{5, 3, 2, 5},
		{5, 4, 2, 4},
		{0, 5, 10, 1},
		{0, 6, 10, 0},
		{0, 20, 10, 0},
		{1, 20, 10, 0},
		{40, 5, 10, 40},
		{40, 0, highest, 40},
		{40, 6, 10, 40},
		{40, 19, 10, 40},
		{40, 20, 10, 39},
		{39, 5, 10, 40},
		{39, 20, 10, 38},
		{5, highest, highest, 5},
		{5, 0, highest, 6},
		{5, highest, 1, 4},
		{5, highest / 2, highest, 6},
		{5, highest/2 + 1, highest, 5},
		{5, highest/2 - 1, highest - 1, 6},
		{5, highest / 2, highest - 1, 5},
		{5, highest, highest / 2, 4},
		{5, highest - 1, highest / 2, 5},
		{5, highest, highest/2 + 1, 5},
	} {
		if got := nexts(t, k.bits, k.took, k.want, api.OK); got != k.next {
			t.Errorf("Next(%d, %d, %d): got %d, want %d", k.bits, k.took, k.want, got, k.next)
		}
	}
}

// TestWK2Edges: twice what it took is just what was wanted, one more and one less; it took just twice what was wanted, one less and one more; with each number of bits.
func TestWK2Edges(t *testing.T) {
	for _, n := range []int{1, 2, 3, 4, 7, 8, 9, 100, 101, 127, 128, 129, 65535, 65536, highest/2 - 2, highest/2 - 1} {
		for bits := 0; bits <= mostBits; bits++ {
			more, less := min(bits+1, 40), max(bits-1, 0)
			for _, k := range []struct{ took, want, next int }{
				{n, 2 * n, more}, {n, 2*n + 1, more}, {n, 2*n - 1, bits},
				{2 * n, n, less}, {2*n + 1, n, less}, {2*n - 1, n, bits},
			} {
				if got := nexts(t, bits, k.took, k.want, api.OK); got != k.next {
					t.Errorf("Next(%d, %d, %d): got %d, want %d", bits, k.took, k.want, got, k.next)
				}
			}
		}
	}
}

// TestWK2All: all that is small, and each number of bits.
func TestWK2All(t *testing.T) {
	for bits := 0; bits <= mostBits; bits++ {
		for took := range 45 {
			for want := 1; want < 45; want++ {
				nexts(t, bits, took, want, api.OK)
			}
		}
	}
}

// TestWK2LongerIsNoMore: the longer it took, the fewer bits are wanted next, or as many; and never more than one more or less than so far.
func TestWK2LongerIsNoMore(t *testing.T) {
	for _, want := range []int{1, 2, 10, 11, highest / 4, highest} {
		for _, bits := range []int{0, 1, 20, 39, 40} {
			last := 41
			for took := 0; took <= highest; took += max(took/50, 1) {
				got := nexts(t, bits, took, want, api.OK)
				if got > last || got > bits+1 || got < bits-1 || got < 0 || got > 40 {
					t.Fatalf("Next(%d, %d, %d): got %d, behind %d", bits, took, want, got, last)
				}
				last = got
			}
		}
	}
}

// TestWK2Bounds: all that is the least or the most that may be.
func TestWK2Bounds(t *testing.T) {
	for _, bits := range []int{0, mostBits} {
		for _, took := range []int{0, 1, highest - 1, highest} {
			for _, want := range []int{1, 2, highest - 1, highest} {
				nexts(t, bits, took, want, api.OK)
			}
		}
	}
}

// TestWK2Range: each of the three by itself, each two, and all of them, are not what they are to be.
func TestWK2Range(t *testing.T) {
	noWants := append([]int{0}, noHeights...)
	for _, bits := range noBits {
		for _, k := range [][2]int{{0, 1}, {5, 10}, {20, 10}, {highest, highest}, {0, highest}, {highest, 1}} {
			nexts(t, bits, k[0], k[1], api.ErrRange)
		}
	}
	for _, bits := range []int{0, 1, 5, 39, 40} {
		for _, took := range noHeights {
			for _, want := range []int{1, 10, highest} {
				nexts(t, bits, took, want, api.ErrRange)
			}
			for _, want := range noWants {
				nexts(t, bits, took, want, api.ErrRange)
			}
		}
		for _, want := range noWants {
			for _, took := range []int{0, 1, 10, highest} {
				nexts(t, bits, took, want, api.ErrRange)
			}
		}
	}
	for _, bits := range noBits {
		for _, outside := range noHeights {
			nexts(t, bits, outside, 10, api.ErrRange)
			nexts(t, bits, 10, outside, api.ErrRange)
			nexts(t, bits, outside, outside, api.ErrRange)
		}
		nexts(t, bits, 10, 0, api.ErrRange)
	}
}
