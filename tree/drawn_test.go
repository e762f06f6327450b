package tree

import (
	"crypto/sha256"
	"math/rand"
	"slices"
	"testing"

	"moneyer/api"
)

// drawnLeaves: leaves that are drawn by lot, few of them most times, some of them the same.
func drawnLeaves(r *rand.Rand) []api.Digest {
	most := []int{3, 10, 40, 256, 300}[r.Intn(5)]
	ls := make([]api.Digest, r.Intn(most+1))
	for i := range ls {
		ls[i] = mixed(r.Intn(2 * most))
	}
	return ls
}

// drawnPath: a path that is right, or too long, or too short, or another leaf's.
func drawnPath(r *rand.Rand, ls []api.Digest, i int) []api.Digest {
	path, _ := otherPath(ls, i)
	switch r.Intn(6) {
	case 0:
		return append(path, mixed(r.Intn(100)))
	case 1:
		return path[:r.Intn(len(path)+1)]
	case 2:
		path, _ = otherPath(ls, r.Intn(len(ls)+1))
	case 3:
		if len(path) > 0 {
			path[r.Intn(len(path))] = mixed(r.Intn(100))
		}
	}
	return path
}

// TestTE2Drawn: leaves, places and paths that are drawn by lot: the calls tell what the other program does; each error is told often.
func TestTE2Drawn(t *testing.T) {
	r := rand.New(rand.NewSource(10))
	rounds := 6000
	if testing.Short() {
		rounds = 1500
	}
	pathErrors, foldErrors := map[api.Errno]int{}, map[api.Errno]int{}
	for range rounds {
		ls := drawnLeaves(r)
		i, n := r.Intn(len(ls)+3)-1, len(ls)+max(r.Intn(8)-6, 0)
		_, rootError := otherRoot(ls)
		_, pathError := otherPath(ls, i)
		root := roots(t, "drawn", ls, rootError)
		whole := paths(t, "drawn", ls, i, pathError)
		path, l := drawnPath(r, ls, i), mixed(r.Intn(100))
		if pathError == api.OK && r.Intn(3) > 0 {
			l = ls[i]
		}
		_, foldError := otherFold(l, i, n, path)
		got := folds(t, "drawn", l, i, n, path, foldError)
		if pathError == api.OK && n == len(ls) && slices.Equal(path, whole) && (l == ls[i]) != (got == root) {
			t.Errorf("leaf %d of %d: the root is %x, folded %x", i, n, root, got)
		}
		pathErrors[pathError]++
		foldErrors[foldError]++
	}
	for _, e := range []api.Errno{api.OK, api.ErrFull, api.ErrRange} {
		if pathErrors[e] < rounds/100 {
			t.Errorf("Path tells %v %d times in %d", e, pathErrors[e], rounds)
		}
	}
	for _, e := range []api.Errno{api.OK, api.ErrRange, api.ErrLength} {
		if foldErrors[e] < rounds/100 {
			t.Errorf("Fold tells %v %d times in %d", e, foldErrors[e], rounds)
		}
	}
}

// cut: digests out of bytes, 32 of them at a time, or 1, so that few bytes are many digests.
func cut(b []byte, size int) []api.Digest {
	var ds []api.Digest
	for part := range slices.Chunk(b, size) {
		var d api.Digest
		copy(d[:], part)
		ds = append(ds, d)
	}
	return ds
}

func FuzzTree(f *testing.F) {
	f.Add([]byte(nil), false, 0, 0, []byte(nil))
	f.Add([]byte("leaves"), true, 5, 6, []byte("ab"))
	f.Add(make([]byte, 100), false, 3, 4, make([]byte, 64))
	f.Add(make([]byte, 256), true, 255, 256, make([]byte, 8))
	f.Add(make([]byte, 257), true, -1, 257, make([]byte, 1))
	f.Fuzz(func(t *testing.T, b []byte, isShort bool, i, n int, pathBytes []byte) {
		size := 32
		if isShort {
			size = 1
		}
		ls, path := cut(b, size), cut(pathBytes, size)
		_, rootError := otherRoot(ls)
		_, pathError := otherPath(ls, i)
		root := roots(t, "leaves", ls, rootError)
		own := paths(t, "leaves", ls, i, pathError)
		if pathError == api.OK && folds(t, "leaves", ls[i], i, len(ls), own, api.OK) != root {
			t.Errorf("leaf %d of %d: folded to another root", i, len(ls))
		}
		l := api.Digest(sha256.Sum256(b))
		if Leaf(b) != otherLeaf(b) || Node(l, root) != otherNode(l, root) {
			t.Errorf("another leaf of %x, or another node", b)
		}
		_, foldError := otherFold(l, i, n, path)
		folds(t, "any", l, i, n, path, foldError)
	})
}
