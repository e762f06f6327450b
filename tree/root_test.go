package tree

import (
	"bytes"
	"slices"
	"testing"

	"moneyer/api"
	"moneyer/plain"
	"moneyer/sha"
)

// TestTE1KnownLeaves: worked out apart, so that the tests do not hang on the other program alone.
func TestTE1KnownLeaves(t *testing.T) {
	all := make([]byte, 1024)
	for i := range all {
		all[i] = byte(i)
	}
	known := []struct {
		text []byte
		leaf string
	}{
		{nil, "6e340b9cffb37a989ca544e6bb780a2c78901d3fb33738768511a30617afa01d"},
		{[]byte{0}, "96a296d224f285c67bee93c30f8a309157f0daa35dc5b87e410b78630a09cfc7"},
		{[]byte{16}, "0298d122906dcfc10892cb53a73992fc5b9f493ea4c9badb27b791b4127a7fe7"},
		{[]byte("@ABC"), "4271a26be0d8a84f0bd54c8c302e7cb3a3b5d1fa6780a40bcce2873477dab658"},
		{make([]byte, 32), "7f9c9e31ac8256ca2f258583df262dbc7d6f68f2a03043d5c99a4ae5a7396ce9"},
		{bytes.Repeat([]byte{255}, 100), "9c57b120115ca743471593511c7c3437169b1c3d04cd598d023ac013dad40994"},
		{all, "3b3c89f5375a2b8162b7d8fe9142f7c041189d5ce8c80bd6350d9d87013ffacf"},
	}
	for _, k := range known {
		if got := Leaf(k.text); got != unhex(t, k.leaf) {
			t.Errorf("Leaf(%x): got %x, want %s", k.text, got, k.leaf)
		}
	}
}

// TestTE1Leaves: every length over some blocks, every byte, and a great many of them; what is digested is not the bytes alone, nor with a byte 1.
func TestTE1Leaves(t *testing.T) {
	if Leaf(nil) != Leaf([]byte{}) {
		t.Error("nil and empty are not the same")
	}
	b := make([]byte, 70000)
	for i := range b {
		b[i] = byte(i*7 + i/64*3 + 1)
	}
	holds := func(b []byte) {
		got := Leaf(b)
		if got != otherLeaf(b) {
			t.Errorf("Leaf(%.80x): got %x, want %x", b, got, otherLeaf(b))
		}
		if got == sha.Sum(b) || got == sha.Sum(append([]byte{1}, b...)) {
			t.Errorf("Leaf(%.80x) has no byte 0 ahead", b)
		}
	}
	for n := range 300 {
		holds(b[:n])
	}
	for n := range 256 {
		holds([]byte{byte(n)})
	}
	holds(b)
}

// TestTE1KnownNodes: worked out apart.
func TestTE1KnownNodes(t *testing.T) {
	known := []struct {
		l, r api.Digest
		node string
	}{
		{filled(0), filled(0), "ae0798d0ecaed2b778eddebf18f071a561c53658c05e76cedecc27cafbdbc577"},
		{filled(0), filled(255), "bc6b943b820c449acf880d293c216a24a8066b153f87f2361fae2beda3a72641"},
		{filled(255), filled(0), "a72afab084e5434c27771f0c63ab22802c9f2e963e417e09b4a95a3fdf4baff6"},
		{filled(255), filled(255), "1f94c635f1e71c09c04eddf83bf07f5b7f1ad772e98df90349f9054c403a0cfc"},
		{counted(), filled(1), "015b7a2fcffe5c42c568286fdfca46f0e952b2ffeb7cb5c8a9d0da20c4043951"},
		{filled(1), counted(), "ee98ff625c0c2fa2c4afd419336d6c37479de9a42f03ee515bf9ba1967533f90"},
	}
	for _, k := range known {
		if got := Node(k.l, k.r); got != unhex(t, k.node) {
			t.Errorf("Node(%x, %x): got %x, want %s", k.l, k.r, got, k.node)
		}
	}
}

// TestTE1Nodes: each two of all kinds, in both orders; no node is the leaf of the same bytes.
func TestTE1Nodes(t *testing.T) {
	for _, l := range kinds() {
		for _, r := range kinds() {
			got := Node(l, r)
			if got != otherNode(l, r) {
				t.Errorf("Node(%x, %x): got %x, want %x", l, r, got, otherNode(l, r))
			}
			if l != r && got == Node(r, l) {
				t.Errorf("Node(%x, %x) is the same in the other order", l, r)
			}
			if got == Leaf(slices.Concat(l[:], r[:])) {
				t.Errorf("Node(%x, %x) is a leaf, too", l, r)
			}
		}
	}
}

// TestTE1NodeBits: each bit of both tells.
func TestTE1NodeBits(t *testing.T) {
	l, r := mixed(1), mixed(2)
	seen := map[api.Digest]int{Node(l, r): -1}
	for bit := range 512 {
		both := [2]api.Digest{l, r}
		both[bit/256][bit%256/8] ^= 1 << (bit % 8)
		got := Node(both[0], both[1])
		if before, ok := seen[got]; ok || got != otherNode(both[0], both[1]) {
			t.Errorf("bit %d: got %x, as of bit %d: %v", bit, got, before, ok)
		}
		seen[got] = bit
	}
}

// TestTE1KnownRoots: those of the first of eight short texts are widely known, the others worked out apart.
func TestTE1KnownRoots(t *testing.T) {
	texts := []string{
		"e3b0c44298fc1c149afbf4c8996fb92427ae41e4649b934ca495991b7852b855",
		"6e340b9cffb37a989ca544e6bb780a2c78901d3fb33738768511a30617afa01d",
		"fac54203e7cc696cf0dfcb42c92a1d9dbaf70ad9e621f4bd8d98662f00e3c125",
		"aeb6bcfe274b70a14fb067a5e5578264db0fa9b51af5e0ba159158f329e06e77",
		"d37ee418976dd95753c1c73862b9398fa2a2cf9b4ff0fdfe8b30cd95209614b7",
		"4e3bbb1f7b478dcfe71fb631631519a3bca12c9aefca1612bfce4c13a86264d4",
		"76e67dadbcdf1e10e1b74ddc608abd2f98dfb16fbce75277b5232a127f2087ef",
		"ddb89be403809e325750d3d263cd78929c2942b7942a34b77e122c9594a74c8c",
		"5dc9da79a70659a9ad559cb701ded9a2ab9d823aad2f4960cfe370eff4604328",
	}
	ls := knownLeaves(t)
	for n, root := range texts {
		if got, err := Root(ls[:n]); err != nil || got != unhex(t, root) {
			t.Errorf("the first %d of them: got %x, %v, want %s", n, got, err, root)
		}
	}
	known := map[int]string{
		9:   "4e91f4fec780dce33c57cbfb4fb502a3adb894a36c8bdcf25024b7fbaa7145f5",
		10:  "f8811f65a2e7e1d31eea913a31326e2fba914f3af36cdd8abf5a597310d99306",
		15:  "048ff87c699845a8da95c78fc3731ba71052062dfc58c14a02674e4fe7b4cc8b",
		16:  "d82f5b059d1dcc92e0be4b91e8c79dd11444fc7f30e09f85a703454bc6097ff8",
		17:  "1cd22c3e012eca0cc556d48fab0ac52d21bf92818b9d6809cb00820ca024f9f8",
		31:  "2f6dbebd876effab0fa24fdfed570b0cf93ece9b25ccb0d8ebb7524668eb301c",
		32:  "542ec4e85e89ea68002ef1c3881f1a9f63470466ed2293219987ba21b8dc864c",
		33:  "06041f3002db85c1e3a57408b6f6144c8cd49676dcf1169cbb0b93b2b54942c6",
		100: "2a7dad2673b36df689110b705379ccc0c027f05433d86bb1d45e2db204d1a4b3",
		127: "945fda5ad5c86aa603209f7aaeeef80b4704c86b78fc9e9f119bff38b83bcbcc",
		128: "6f2567327b3cfc70759d687025937eb87cc0cdbe01ef2543a543d1d26830ba9c",
		129: "df8a3190e6a1cb1c69484d2cdaacfabd6edcf253a8ec5ea172c484f6c0c276a1",
		200: "6e1f92d54ca4817a8be46e3d09a09e68878ac8ac403e6d0788ce2427025e6440",
		255: "d42e463d1cc87079f186191abe5711a89837a76ea355cf243a10e231569f5f90",
		256: "47b1bfd4fcc22e82f6268a2e84c63eaf924286cbbe6f3187031bacc80e22d0bb",
	}
	for n, root := range known {
		if got, err := Root(numbered(n)); err != nil || got != unhex(t, root) {
			t.Errorf("%d of them: got %x, %v, want %s", n, got, err, root)
		}
	}
}

// TestTE1RootOfNone: it is Sum of no bytes, which is no leaf's.
func TestTE1RootOfNone(t *testing.T) {
	for _, none := range [][]api.Digest{nil, {}, leaves(3)[:0]} {
		if got := roots(t, "none", none, api.OK); got != sha.Sum(nil) || got == Leaf(nil) {
			t.Errorf("none: got %x", got)
		}
	}
}

// TestTE1RootOfOne: it is the leaf, whatever it is.
func TestTE1RootOfOne(t *testing.T) {
	for _, l := range append(kinds(), Leaf(nil), sha.Sum(nil)) {
		if got := roots(t, "one", []api.Digest{l}, api.OK); got != l {
			t.Errorf("one: got %x, want %x", got, l)
		}
	}
}

// TestTE1Roots: of each number of them, from none to MaxLeaves.
func TestTE1Roots(t *testing.T) {
	ls := leaves(256)
	for n := range 257 {
		roots(t, "leaves", ls[:n], api.OK)
	}
}

// TestTE1Split: the first ones are as many as the greatest power of 2 below how many there are: half of them, where they are a power of 2 themselves.
func TestTE1Split(t *testing.T) {
	ls := leaves(256)
	for n := 2; n <= 256; n++ {
		k := 128
		for k >= n {
			k /= 2
		}
		first, err := Root(ls[:k])
		if err != nil {
			t.Fatal(err)
		}
		others, err := Root(ls[k:n])
		if err != nil {
			t.Fatal(err)
		}
		if got, err := Root(ls[:n]); err != nil || got != Node(first, others) {
			t.Errorf("%d leaves: got %x, %v, which is no node of %d and %d", n, got, err, k, n-k)
		}
	}
}

// TestTE1WrittenOut: the nodes of few leaves.
func TestTE1WrittenOut(t *testing.T) {
	ls := leaves(8)
	a, b, c, d, e, f, g, h := ls[0], ls[1], ls[2], ls[3], ls[4], ls[5], ls[6], ls[7]
	four := Node(Node(a, b), Node(c, d))
	for n, want := range map[int]api.Digest{
		2: Node(a, b),
		3: Node(Node(a, b), c),
		4: four,
		5: Node(four, e),
		6: Node(four, Node(e, f)),
		7: Node(four, Node(Node(e, f), g)),
		8: Node(four, Node(Node(e, f), Node(g, h))),
	} {
		if got := roots(t, "few", ls[:n], api.OK); got != want {
			t.Errorf("%d leaves: got %x, want %x", n, got, want)
		}
	}
}

// TestTE1Full: MaxLeaves may be, one more may not, nor any number above it.
func TestTE1Full(t *testing.T) {
	ls := leaves(5000)
	if roots(t, "as many as may be", ls[:256], api.OK) == (api.Digest{}) {
		t.Error("as many as may be: Root tells nothing")
	}
	for _, n := range []int{257, 258, 300, 511, 512, 513, 1024, 5000} {
		roots(t, "too many", ls[:n], api.ErrFull)
	}
	if _, err := Root(make([]api.Digest, 257)); plain.Told(err) != api.ErrFull {
		t.Errorf("257 digests of bytes 0: %v", err)
	}
}

// TestTE1EachLeafTells: where one is another, where two are changed for each other, where one is left out, and where the last one is there twice, it is another root.
func TestTE1EachLeafTells(t *testing.T) {
	for _, n := range []int{1, 2, 3, 4, 5, 7, 8, 9, 15, 16, 17, 33} {
		ls := leaves(n)
		seen := map[api.Digest]int{roots(t, "leaves", ls, api.OK): -1}
		another := func(what string, at int, ls []api.Digest) {
			got := roots(t, what, ls, api.OK)
			if before, ok := seen[got]; ok {
				t.Errorf("%d leaves, %s at %d: the same root as of %d", n, what, at, before)
			}
			seen[got] = at
		}
		for i := range ls {
			for _, at := range []int{0, 31} {
				changed := slices.Clone(ls)
				changed[i][at] ^= 1
				another("a bit", i, changed)
			}
			for j := range i {
				changed := slices.Clone(ls)
				changed[i], changed[j] = ls[j], ls[i]
				another("two for each other", i, changed)
			}
			another("one less", i, slices.Delete(slices.Clone(ls), i, i+1))
		}
		another("the last one twice", n, append(slices.Clone(ls), ls[n-1]))
	}
}

// TestTE1SameLeaves: leaves may be the same, and be of bytes 0.
func TestTE1SameLeaves(t *testing.T) {
	seen := map[api.Digest]int{}
	for n := range 257 {
		roots(t, "the same ones", slices.Repeat([]api.Digest{mixed(5)}, n), api.OK)
		got := roots(t, "bytes 0", make([]api.Digest, n), api.OK)
		if before, ok := seen[got]; ok {
			t.Errorf("%d and %d digests of bytes 0 have the same root", before, n)
		}
		seen[got] = n
	}
}
