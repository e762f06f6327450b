package tree

import (
	"math"
	"slices"
	"testing"

	"moneyer/api"
)

// pathOfAny: a path as long as that of leaf i of n, of digests that are no tree's.
func pathOfAny(i, n int) []api.Digest {
	var path []api.Digest
	for range pathUp(levels(make([]api.Digest, n)), i) {
		path = append(path, mixed(7*n+i+len(path)))
	}
	return path
}

// TestTE2FoldKnown: each of the first of eight short texts, by a path worked out apart, has the root that is widely known.
func TestTE2FoldKnown(t *testing.T) {
	ls := knownLeaves(t)
	root := unhex(t, "ddb89be403809e325750d3d263cd78929c2942b7942a34b77e122c9594a74c8c")
	first := []api.Digest{
		unhex(t, "96a296d224f285c67bee93c30f8a309157f0daa35dc5b87e410b78630a09cfc7"),
		unhex(t, "5f083f0a1a33ca076a95279832580db3e0ef4584bdff1f54c8a360f50de3031e"),
		unhex(t, "837dbb152e9b079010717e84e865da4ebc0fa198a806d59d31bf15accef22d0e"),
	}
	last := []api.Digest{
		unhex(t, "0ebc5d3437fbe2db158b9f126a1d118e308181031d0a949f8dededebc558ef6a"),
		unhex(t, "d37ee418976dd95753c1c73862b9398fa2a2cf9b4ff0fdfe8b30cd95209614b7"),
	}
	if got := folds(t, "the first one", ls[0], 0, 7, first, api.OK); got != root {
		t.Errorf("the first one: got %x", got)
	}
	if got := folds(t, "the last one", ls[6], 6, 7, last, api.OK); got != root {
		t.Errorf("the last one: got %x", got)
	}
}

// TestTE2FoldOfPath: each leaf of each number of them that is tried, with its Path, has Root.
func TestTE2FoldOfPath(t *testing.T) {
	for _, n := range counts() {
		ls := leaves(n)
		root, err := Root(ls)
		if err != nil {
			t.Fatal(err)
		}
		for i, l := range ls {
			path, err := Path(ls, i)
			if err != nil {
				t.Fatal(err)
			}
			if got := folds(t, "a leaf", l, i, n, path, api.OK); got != root {
				t.Errorf("leaf %d of %d: got %x, want %x", i, n, got, root)
			}
		}
	}
}

// TestTE2FoldAll: each place of each number of leaves, from 1 to MaxLeaves.
func TestTE2FoldAll(t *testing.T) {
	for n := 1; n <= 256; n++ {
		ls := leaves(n)
		all := levels(ls)
		for i, l := range ls {
			if got, err := Fold(l, i, n, pathUp(all, i)); err != nil || got != all[len(all)-1][0] {
				t.Errorf("leaf %d of %d: got %x, %v, want %x", i, n, got, err, all[len(all)-1][0])
			}
		}
	}
}

// TestTE2FoldOfAny: what is no tree's is folded, too: no error is told but that of how long it is.
func TestTE2FoldOfAny(t *testing.T) {
	for n := 1; n <= 40; n++ {
		for i := range n {
			path := pathOfAny(i, n)
			for _, l := range kinds() {
				folds(t, "any", l, i, n, path, api.OK)
				folds(t, "bytes 0", l, i, n, make([]api.Digest, len(path)), api.OK)
				folds(t, "the leaf itself", l, i, n, slices.Repeat([]api.Digest{l}, len(path)), api.OK)
			}
		}
	}
}

// TestTE2FoldOfOne: one leaf, and an empty path, are the leaf; a path that is not empty is too long.
func TestTE2FoldOfOne(t *testing.T) {
	for _, l := range kinds() {
		for _, none := range [][]api.Digest{nil, {}, leaves(3)[:0]} {
			if got := folds(t, "one leaf", l, 0, 1, none, api.OK); got != l {
				t.Errorf("one leaf: got %x, want %x", got, l)
			}
		}
		folds(t, "one leaf", l, 0, 1, leaves(1), api.ErrLength)
		folds(t, "one leaf", l, 0, 1, []api.Digest{l}, api.ErrLength)
	}
}

// TestTE2FoldLength: each path but as long as it must be, from an empty one to one longer than any, for each leaf of each number of them that is tried.
func TestTE2FoldLength(t *testing.T) {
	any := leaves(1000)
	for _, n := range counts() {
		all := levels(make([]api.Digest, n))
		for i := range n {
			long := len(pathUp(all, i))
			for count := range 12 {
				want := api.ErrLength
				if count == long {
					want = api.OK
				}
				folds(t, "another length", mixed(1), i, n, any[:count], want)
			}
			folds(t, "far too long", mixed(1), i, n, any, api.ErrLength)
			folds(t, "a multiple of 256 too long", mixed(1), i, n, any[:256+long], api.ErrLength)
		}
	}
}

// TestTE2FoldBeginningOrEnd: what leads to a half alone, or from it, is too short, though each digest of it is right.
func TestTE2FoldBeginningOrEnd(t *testing.T) {
	for _, n := range []int{2, 3, 4, 5, 7, 8, 9, 33, 255, 256} {
		ls := leaves(n)
		for _, i := range []int{0, n / 2, n - 1} {
			path := paths(t, "leaves", ls, i, api.OK)
			for cut := range path {
				folds(t, "the beginning", ls[i], i, n, path[:cut], api.ErrLength)
				folds(t, "the end", ls[i], i, n, path[cut+1:], api.ErrLength)
			}
			folds(t, "one more ahead", ls[i], i, n, slices.Concat(leaves(1), path), api.ErrLength)
			folds(t, "one more behind", ls[i], i, n, slices.Concat(path, leaves(1)), api.ErrLength)
			folds(t, "all, and the root", ls[i], i, n, append(slices.Clone(path), roots(t, "leaves", ls, api.OK)), api.ErrLength)
		}
	}
}

// TestTE2FoldRange: an n of 0, below it, and above MaxLeaves, at any place; a place below 0, of n, and beyond it. It is told ahead of that a path has another length.
func TestTE2FoldRange(t *testing.T) {
	every := [][]api.Digest{nil, leaves(1), leaves(8), leaves(9), leaves(300)}
	for _, n := range []int{0, -1, -2, -256, 257, 258, 512, 1 << 32, 1<<32 + 1, -1 << 32, math.MinInt, math.MinInt + 1, math.MaxInt} {
		for _, i := range []int{0, 1, -1, 5, 255, 256, 257, n, n - 1, n + 1, math.MinInt, math.MaxInt} {
			for _, path := range every {
				folds(t, "no such n", mixed(1), i, n, path, api.ErrRange)
			}
		}
	}
	for n := 1; n <= 256; n++ {
		for _, i := range outside(n) {
			for _, path := range every {
				folds(t, "no such leaf", mixed(1), i, n, path, api.ErrRange)
			}
			folds(t, "no such leaf, the first one's path", mixed(1), i, n, pathOfAny(0, n), api.ErrRange)
			folds(t, "no such leaf, the last one's path", mixed(1), i, n, pathOfAny(n-1, n), api.ErrRange)
		}
	}
	folds(t, "as many as may be", mixed(1), 0, 256, leaves(8), api.OK)
	folds(t, "as many as may be", mixed(1), 255, 256, leaves(8), api.OK)
	folds(t, "as many as may be", mixed(1), 255, 256, leaves(7), api.ErrLength)
	folds(t, "one more", mixed(1), 256, 257, leaves(1), api.ErrRange)
	folds(t, "one more", mixed(1), 0, 257, leaves(9), api.ErrRange)
	folds(t, "the last one is alone", mixed(1), 128, 129, leaves(1), api.OK)
}

// TestTE2FoldOfAnother: another leaf, another place of as long a path, and each digest of the path, where it is another one or stands elsewhere, have another root.
func TestTE2FoldOfAnother(t *testing.T) {
	for _, n := range []int{2, 3, 4, 5, 6, 7, 8, 9, 16, 17, 31} {
		ls := leaves(n)
		root := roots(t, "leaves", ls, api.OK)
		for i, l := range ls {
			path := paths(t, "leaves", ls, i, api.OK)
			another := func(what string, l api.Digest, i int, path []api.Digest) {
				if folds(t, what, l, i, n, path, api.OK) == root {
					t.Errorf("leaf %d of %d, %s: the same root", i, n, what)
				}
			}
			for bit := range 256 {
				changed := l
				changed[bit/8] ^= 1 << (bit % 8)
				another("a bit of the leaf", changed, i, path)
			}
			for at := range path {
				changed := slices.Clone(path)
				changed[at][31] ^= 1
				another("a bit of the path", l, i, changed)
				changed = slices.Clone(path)
				slices.Reverse(changed[:at+1])
				if at > 0 {
					another("the path in another order", l, i, changed)
				}
			}
			for other := range n {
				if other != i && len(pathOfAny(other, n)) == len(path) {
					another("another place", l, other, path)
				}
			}
		}
	}
}
