package tree

import (
	"math"
	"slices"
	"testing"

	"moneyer/api"
)

// TestTE2KnownPaths: worked out apart, of the first of eight short texts.
func TestTE2KnownPaths(t *testing.T) {
	ls := knownLeaves(t)
	known := []struct {
		n, i int
		path []string
	}{
		{1, 0, nil},
		{5, 4, []string{"d37ee418976dd95753c1c73862b9398fa2a2cf9b4ff0fdfe8b30cd95209614b7"}},
		{6, 4, []string{"4271a26be0d8a84f0bd54c8c302e7cb3a3b5d1fa6780a40bcce2873477dab658", "d37ee418976dd95753c1c73862b9398fa2a2cf9b4ff0fdfe8b30cd95209614b7"}},
		{7, 0, []string{"96a296d224f285c67bee93c30f8a309157f0daa35dc5b87e410b78630a09cfc7", "5f083f0a1a33ca076a95279832580db3e0ef4584bdff1f54c8a360f50de3031e", "837dbb152e9b079010717e84e865da4ebc0fa198a806d59d31bf15accef22d0e"}},
		{7, 3, []string{"0298d122906dcfc10892cb53a73992fc5b9f493ea4c9badb27b791b4127a7fe7", "fac54203e7cc696cf0dfcb42c92a1d9dbaf70ad9e621f4bd8d98662f00e3c125", "837dbb152e9b079010717e84e865da4ebc0fa198a806d59d31bf15accef22d0e"}},
		{7, 6, []string{"0ebc5d3437fbe2db158b9f126a1d118e308181031d0a949f8dededebc558ef6a", "d37ee418976dd95753c1c73862b9398fa2a2cf9b4ff0fdfe8b30cd95209614b7"}},
		{8, 5, []string{"bc1a0643b12e4d2d7c77918f44e0f4f79a838b6cf9ec5b5c283e1f4d88599e6b", "ca854ea128ed050b41b35ffc1b87b8eb2bde461e9e3b5596ece6b9d5975a0ae0", "d37ee418976dd95753c1c73862b9398fa2a2cf9b4ff0fdfe8b30cd95209614b7"}},
	}
	for _, k := range known {
		var want []api.Digest
		for _, s := range k.path {
			want = append(want, unhex(t, s))
		}
		if got, err := Path(ls[:k.n], k.i); err != nil || !slices.Equal(got, want) {
			t.Errorf("leaf %d of %d: got %x, %v, want %x", k.i, k.n, got, err, want)
		}
	}
}

// TestTE2PathsWrittenOut: those of few leaves, from the leaf up.
func TestTE2PathsWrittenOut(t *testing.T) {
	ls := leaves(7)
	a, b, c, d, e, f, g := ls[0], ls[1], ls[2], ls[3], ls[4], ls[5], ls[6]
	ab, cd, ef := Node(a, b), Node(c, d), Node(e, f)
	four, three := Node(ab, cd), Node(ef, g)
	for n, all := range map[int][][]api.Digest{
		1: {{}},
		2: {{b}, {a}},
		3: {{b, c}, {a, c}, {ab}},
		4: {{b, cd}, {a, cd}, {d, ab}, {c, ab}},
		5: {{b, cd, e}, {a, cd, e}, {d, ab, e}, {c, ab, e}, {four}},
		6: {{b, cd, ef}, {a, cd, ef}, {d, ab, ef}, {c, ab, ef}, {f, four}, {e, four}},
		7: {{b, cd, three}, {a, cd, three}, {d, ab, three}, {c, ab, three}, {f, g, four}, {e, g, four}, {ef, four}},
	} {
		for i, want := range all {
			if got := paths(t, "few", ls[:n], i, api.OK); !slices.Equal(got, want) {
				t.Errorf("leaf %d of %d: got %x, want %x", i, n, got, want)
			}
		}
	}
}

// TestTE2Paths: of each leaf of each number of them that is tried; that of the first one is as long as there are halves to be cut, none is longer.
func TestTE2Paths(t *testing.T) {
	for _, n := range counts() {
		ls := leaves(n)
		all := levels(ls)
		for i := range n {
			got, err := Path(ls, i)
			if err != nil || !slices.Equal(got, pathUp(all, i)) {
				t.Errorf("leaf %d of %d: got %x, %v, want %x", i, n, got, err, pathUp(all, i))
			}
			if longest := len(all) - 1; len(got) > longest || i == 0 && len(got) != longest {
				t.Errorf("leaf %d of %d: a path of %d", i, n, len(got))
			}
		}
		if !slices.Equal(ls, leaves(n)) {
			t.Errorf("%d leaves: Path changes what it is given", n)
		}
	}
}

// TestTE2PathOfSameLeaves: where leaves are the same, it is by the place that they are told apart.
func TestTE2PathOfSameLeaves(t *testing.T) {
	for _, n := range []int{1, 2, 3, 5, 6, 7, 9, 256} {
		for i := range n {
			paths(t, "bytes 0", make([]api.Digest, n), i, api.OK)
			paths(t, "the same ones", slices.Repeat([]api.Digest{mixed(1)}, n), i, api.OK)
		}
	}
}

// outside: places at which none of n is.
func outside(n int) []int {
	return []int{-1, n, -2, n + 1, n + 2, -n - 1, 2*n + 1, n + 256, math.MinInt, math.MaxInt, math.MinInt32, math.MaxInt32, math.MinInt + 1, 1 << 32, -1 << 32, 1 << 62}
}

// TestTE2PathRange: the first and the last place are there, what is one beyond is not, nor anything in no leaves.
func TestTE2PathRange(t *testing.T) {
	for n := range 257 {
		ls := leaves(n)
		for _, i := range outside(n) {
			paths(t, "outside", ls, i, api.ErrRange)
		}
		if n > 0 {
			paths(t, "the first one", ls, 0, api.OK)
			paths(t, "the last one", ls, n-1, api.OK)
		}
	}
	for _, none := range [][]api.Digest{nil, {}, leaves(3)[:0]} {
		for i := -3; i < 5; i++ {
			paths(t, "none", none, i, api.ErrRange)
		}
	}
}

// TestTE2PathFull: MaxLeaves may be, one more may not, whatever the place is: that there are too many is told ahead of that there is no such leaf.
func TestTE2PathFull(t *testing.T) {
	ls := leaves(1000)
	for _, n := range []int{257, 258, 300, 512, 1000} {
		for _, i := range append(outside(n), 0, 1, 255, 256, n-1) {
			paths(t, "too many", ls[:n], i, api.ErrFull)
		}
	}
	for _, i := range []int{0, 1, 127, 128, 254, 255} {
		if len(paths(t, "as many as may be", ls[:256], i, api.OK)) != 8 {
			t.Errorf("leaf %d of 256: no path of 8", i)
		}
	}
	paths(t, "as many as may be", ls[:256], 256, api.ErrRange)
}
