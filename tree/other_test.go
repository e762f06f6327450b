package tree

import (
	"crypto/sha256"
	"encoding/hex"
	"slices"
	"testing"

	"moneyer/api"
	"moneyer/plain"
)

// This file has what the calls are to tell, in other words: a tree is not halved from its root down, but built level by level from its leaves up; what is alone at the end of a level goes up as it is.

func otherLeaf(b []byte) api.Digest {
	return sha256.Sum256(slices.Concat([]byte{0}, b))
}

func otherNode(l, r api.Digest) api.Digest {
	return sha256.Sum256(slices.Concat([]byte{1}, l[:], r[:]))
}

// levels: the leaves, what each two of them have, what each two of these have, and so on up to one.
func levels(ls []api.Digest) [][]api.Digest {
	all := [][]api.Digest{ls}
	for len(ls) > 1 {
		var above []api.Digest
		for i := 0; i+1 < len(ls); i += 2 {
			above = append(above, otherNode(ls[i], ls[i+1]))
		}
		if len(ls)%2 == 1 {
			above = append(above, ls[len(ls)-1])
		}
		all, ls = append(all, above), above
	}
	return all
}

func otherRoot(ls []api.Digest) (api.Digest, api.Errno) {
	switch {
	case len(ls) >= 257:
		return api.Digest{}, api.ErrFull
	case len(ls) == 0:
		return sha256.Sum256(nil), api.OK
	}
	all := levels(ls)
	return all[len(all)-1][0], api.OK
}

func otherPath(ls []api.Digest, i int) ([]api.Digest, api.Errno) {
	switch {
	case len(ls) >= 257:
		return nil, api.ErrFull
	case i <= -1 || i >= len(ls):
		return nil, api.ErrRange
	}
	return pathUp(levels(ls), i), api.OK
}

// pathUp: what stands beside a leaf, and beside what it is in, level by level.
func pathUp(all [][]api.Digest, i int) []api.Digest {
	var path []api.Digest
	for _, level := range all {
		if i^1 < len(level) {
			path = append(path, level[i^1])
		}
		i /= 2
	}
	return path
}

func otherFold(l api.Digest, i, n int, path []api.Digest) (api.Digest, api.Errno) {
	if n <= 0 || n >= 257 || i <= -1 || i >= n {
		return api.Digest{}, api.ErrRange
	}
	for ; n > 1; i, n = i/2, (n+1)/2 {
		switch {
		case i^1 >= n:
			continue
		case len(path) == 0:
			return api.Digest{}, api.ErrLength
		case i%2 == 1:
			l = otherNode(path[0], l)
		default:
			l = otherNode(l, path[0])
		}
		path = path[1:]
	}
	if len(path) > 0 {
		return api.Digest{}, api.ErrLength
	}
	return l, api.OK
}

// roots holds what Root tells, and tells it.
func roots(t *testing.T, name string, ls []api.Digest, want api.Errno) api.Digest {
	t.Helper()
	before := slices.Clone(ls)
	got, err := Root(ls)
	other, told := otherRoot(ls)
	if plain.Told(err) != want || told != want || got != other {
		t.Errorf("%s: Root tells %x, %v, the other program %x, %v, want %v", name, got, err, other, told, want)
	}
	if !slices.Equal(ls, before) {
		t.Errorf("%s: Root changes what it is given", name)
	}
	return got
}

// paths holds what Path tells, and tells it.
func paths(t *testing.T, name string, ls []api.Digest, i int, want api.Errno) []api.Digest {
	t.Helper()
	before := slices.Clone(ls)
	got, err := Path(ls, i)
	other, told := otherPath(ls, i)
	if plain.Told(err) != want || told != want || !slices.Equal(got, other) {
		t.Errorf("%s, leaf %d: Path tells %x, %v, the other program %x, %v, want %v", name, i, got, err, other, told, want)
	}
	if err != nil && got != nil {
		t.Errorf("%s, leaf %d: Path tells no nil with an error", name, i)
	}
	if !slices.Equal(ls, before) {
		t.Errorf("%s, leaf %d: Path changes what it is given", name, i)
	}
	return got
}

// folds holds what Fold tells, and tells it.
func folds(t *testing.T, name string, l api.Digest, i, n int, path []api.Digest, want api.Errno) api.Digest {
	t.Helper()
	before := slices.Clone(path)
	got, err := Fold(l, i, n, path)
	other, told := otherFold(l, i, n, path)
	if plain.Told(err) != want || told != want || got != other {
		t.Errorf("%s, leaf %d of %d, path of %d: Fold tells %x, %v, the other program %x, %v, want %v", name, i, n, len(path), got, err, other, told, want)
	}
	if !slices.Equal(path, before) {
		t.Errorf("%s, leaf %d of %d: Fold changes what it is given", name, i, n)
	}
	return got
}

// filled: a digest of which all bytes are the same.
func filled(b byte) api.Digest {
	var d api.Digest
	for i := range d {
		d[i] = b
	}
	return d
}

// counted: a digest of the bytes 0 to 31.
func counted() api.Digest {
	var d api.Digest
	for i := range d {
		d[i] = byte(i)
	}
	return d
}

// mixed: digests of all kinds: the same one for the same number.
func mixed(n int) api.Digest {
	return sha256.Sum256([]byte{byte(n >> 8), byte(n)})
}

// kinds: the least and the greatest digest, those next to them, and some between.
func kinds() []api.Digest {
	return []api.Digest{{}, {1}, {31: 1}, filled(1), filled(127), filled(128), filled(255), counted(), mixed(0), mixed(1)}
}

// leaves: so many digests, no two of them the same.
func leaves(n int) []api.Digest {
	var ls []api.Digest
	for i := range n {
		ls = append(ls, mixed(i+1000))
	}
	return ls
}

// numbered: so many digests, the first byte of each being its place.
func numbered(n int) []api.Digest {
	ls := make([]api.Digest, n)
	for i := range ls {
		ls[i][0] = byte(i)
	}
	return ls
}

// knownLeaves: the leaves of eight short texts.
func knownLeaves(t *testing.T) []api.Digest {
	var ls []api.Digest
	for _, text := range []string{"", "00", "10", "2021", "3031", "40414243", "5051525354555657", "606162636465666768696a6b6c6d6e6f"} {
		b, err := hex.DecodeString(text)
		if err != nil {
			t.Fatal(err)
		}
		ls = append(ls, Leaf(b))
	}
	return ls
}

func unhex(t *testing.T, s string) api.Digest {
	t.Helper()
	b, err := hex.DecodeString(s)
	if err != nil || len(b) != 32 {
		t.Fatalf("no digest: %q", s)
	}
	return api.Digest(b)
}

// counts: how many leaves are tried: all up to some, and those round each power of 2, and round the most.
func counts() []int {
	all := []int{100, 127, 128, 129, 130, 192, 193, 200, 254, 255, 256}
	for n := 70; n > 0; n-- {
		all = append(all, n)
	}
	slices.Sort(all)
	return all
}
