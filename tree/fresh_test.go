package tree

import (
	"bytes"
	"slices"
	"testing"

	"moneyer/api"
	"moneyer/plain"
)

// roomy: the same digests, with others behind their length, which are none of them.
func roomy(ds []api.Digest) []api.Digest {
	whole := slices.Concat(ds, slices.Repeat([]api.Digest{filled(9)}, 300))
	return whole[:len(ds)]
}

// whole: digests with all that lies behind their length.
func whole(ds []api.Digest) []api.Digest { return slices.Clone(ds[:cap(ds)]) }

// spoil changes all of digests, and what lies behind their length, too.
func spoil(ds []api.Digest) {
	ds = ds[:cap(ds)]
	for i := range ds {
		ds[i] = filled(77)
	}
}

// TestP2LeafOfPart: what lies behind the length of bytes is neither read nor written, and the bytes stay as they are.
func TestP2LeafOfPart(t *testing.T) {
	for n := range 200 {
		b := bytes.Repeat([]byte{9}, n+100)
		if Leaf(b[:n]) != otherLeaf(bytes.Clone(b[:n])) {
			t.Errorf("%d bytes of more: got %x", n, Leaf(b[:n]))
		}
		if !bytes.Equal(b, bytes.Repeat([]byte{9}, n+100)) {
			t.Errorf("%d bytes of more are written into", n)
		}
	}
}

// TestP2WritesNothing: neither into leaves or a path nor behind their length, which is not read either; whether it ends well or not.
func TestP2WritesNothing(t *testing.T) {
	for _, n := range []int{0, 1, 2, 3, 4, 5, 7, 8, 9, 17, 128, 129, 255, 256, 257, 300} {
		ls := roomy(leaves(n))
		before := whole(ls)
		isFull, isThere := api.OK, api.OK
		if n == 0 {
			isThere = api.ErrRange
		}
		if n > 256 {
			isFull, isThere = api.ErrFull, api.ErrFull
		}
		roots(t, "roomy", ls, isFull)
		for _, i := range []int{0, n / 2, n - 1} {
			paths(t, "roomy", ls, i, isThere)
		}
		for _, i := range []int{-1, n} {
			want := api.ErrRange
			if n > 256 {
				want = api.ErrFull
			}
			paths(t, "roomy, outside", ls, i, want)
		}
		if !slices.Equal(whole(ls), before) {
			t.Errorf("%d leaves: something is written into what is handed in", n)
		}
	}
}

// TestP2FoldWritesNothing: as above, of paths.
func TestP2FoldWritesNothing(t *testing.T) {
	for _, n := range []int{1, 2, 3, 5, 7, 8, 9, 129, 256} {
		for _, i := range []int{0, n / 2, n - 1} {
			path := roomy(pathOfAny(i, n))
			before := whole(path)
			folds(t, "roomy", mixed(1), i, n, path, api.OK)
			folds(t, "roomy, no such leaf", mixed(1), n, n, path, api.ErrRange)
			folds(t, "roomy, too long", mixed(1), i, n, path[:len(path)+1], api.ErrLength)
			if len(path) > 0 {
				folds(t, "roomy, too short", mixed(1), i, n, path[:len(path)-1], api.ErrLength)
			}
			if !slices.Equal(whole(path), before) {
				t.Errorf("leaf %d of %d: something is written into what is handed in", i, n)
			}
		}
	}
}

// TestP2Fresh: a path shares nothing with the leaves, or with a path that is told another time, though they are as long as can be.
func TestP2Fresh(t *testing.T) {
	for n := 1; n <= 70; n++ {
		ls := roomy(leaves(n))
		before := whole(ls)
		for i := range n {
			one := paths(t, "one", ls, i, api.OK)
			two := paths(t, "two", ls, i, api.OK)
			want := slices.Clone(one)
			spoil(one)
			_ = append(one, filled(88))
			if !slices.Equal(whole(ls), before) || !slices.Equal(two, want) {
				t.Fatalf("leaf %d of %d: what Path tells shares memory", i, n)
			}
		}
		first := paths(t, "the first one", ls, 0, api.OK)
		want := slices.Clone(first)
		spoil(ls)
		if !slices.Equal(first, want) {
			t.Fatalf("%d leaves: what Path tells changes with what was handed in", n)
		}
	}
}

// TestP2KeepsNothing: what is told hangs on what is handed in alone, also behind errors, and behind a change of what was handed in.
func TestP2KeepsNothing(t *testing.T) {
	ls := leaves(7)
	root := roots(t, "leaves", ls, api.OK)
	path := paths(t, "leaves", ls, 4, api.OK)
	for range 2 {
		roots(t, "too many", leaves(257), api.ErrFull)
		paths(t, "too many", leaves(257), 0, api.ErrFull)
		paths(t, "outside", ls, 7, api.ErrRange)
		folds(t, "no such n", ls[4], 0, 0, path, api.ErrRange)
		folds(t, "too long", ls[4], 6, 7, path, api.ErrLength)
		if roots(t, "leaves", ls, api.OK) != root || folds(t, "leaves", ls[4], 4, 7, path, api.OK) != root {
			t.Error("behind errors another root is told")
		}
		if !slices.Equal(paths(t, "leaves", ls, 4, api.OK), path) {
			t.Error("behind errors another path is told")
		}
	}
	ls[5][0] ^= 1
	changed := paths(t, "behind a change", ls, 4, api.OK)
	if roots(t, "behind a change", ls, api.OK) == root || slices.Equal(changed, path) {
		t.Error("a change of the leaves changes nothing")
	}
	path[0] = changed[0]
	if folds(t, "behind a change", ls[4], 4, 7, path, api.OK) != roots(t, "behind a change", ls, api.OK) {
		t.Error("a change of the path changes nothing")
	}
}

// TestP3Numbers: what is told is one of the program's numbers, and of what is well nothing.
func TestP3Numbers(t *testing.T) {
	_, full := Root(leaves(257))
	_, alsoFull := Path(leaves(257), 0)
	_, outside := Path(nil, 0)
	_, noLeaf := Fold(mixed(1), 1, 1, nil)
	_, long := Fold(mixed(1), 0, 1, leaves(1))
	for i, told := range []struct {
		err  error
		want api.Errno
	}{{full, api.ErrFull}, {alsoFull, api.ErrFull}, {outside, api.ErrRange}, {noLeaf, api.ErrRange}, {long, api.ErrLength}} {
		if told.err == nil || plain.Told(told.err) != told.want {
			t.Errorf("error %d: got %v, want %v", i, told.err, told.want)
		}
	}
	_, root := Root(nil)
	_, path := Path(leaves(1), 0)
	_, fold := Fold(mixed(1), 0, 1, nil)
	for i, err := range []error{root, path, fold} {
		if err != nil {
			t.Errorf("no error %d: got %v", i, err)
		}
	}
}
