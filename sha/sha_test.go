package sha

import (
	"bytes"
	"crypto/sha256"
	"encoding/hex"
	"slices"
	"strings"
	"testing"

	"moneyer/api"
)

// counted makes n bytes, few of them the same as those a block further on.
func counted(n int) []byte {
	b := make([]byte, n)
	for i := range b {
		b[i] = byte(i*7 + i/64*3 + 1)
	}
	return b
}

func holds(t *testing.T, name string, got api.Digest, want [32]byte) {
	t.Helper()
	if got != api.Digest(want) {
		t.Errorf("%s: got %x, want %x", name, got, want)
	}
}

// TestSA1KnownDigests: the chapter's table, and digests that are widely known, so that the tests do not hang on another program alone.
func TestSA1KnownDigests(t *testing.T) {
	known := []struct{ text, sum string }{
		{"", "e3b0c44298fc1c149afbf4c8996fb92427ae41e4649b934ca495991b7852b855"},
		{"abc", "ba7816bf8f01cfea414140de5dae2223b00361a396177a9cb410ff61f20015ad"},
		{"abcdbcdecdefdefgefghfghighijhijkijkljklmklmnlmnomnopnopq", "248d6a61d20638b8e5c026930c3e6039a33ce45964ff2167f6ecedd419db06c1"},
		{"abcdefghbcdefghicdefghijdefghijkefghijklfghijklmghijklmnhijklmnoijklmnopjklmnopqklmnopqrlmnopqrsmnopqrstnopqrstu", "cf5b16a778af8380036ce59e7b0492370b249b11e8f07a51afac45037afee9d1"},
		{strings.Repeat("a", 1000000), "cdc76e5c9914fb9281a1c7e284d73e67f1809a48a497200e046d39ccc7112cd0"},
	}
	for _, k := range known {
		got := Sum([]byte(k.text))
		if hex.EncodeToString(got[:]) != k.sum {
			t.Errorf("Sum of %d bytes: got %x, want %s", len(k.text), got, k.sum)
		}
	}
}

// TestSA1AllLengths: every length up to some blocks, so every length round 64n and round 64n + 56.
func TestSA1AllLengths(t *testing.T) {
	all := counted(5*64 + 2)
	for n := range all {
		holds(t, "Sum", Sum(all[:n]), sha256.Sum256(all[:n]))
	}
}

// TestSA1EndingBytes: the byte 128, the bytes 0 and the count, also where the count needs more than its lowest bytes.
func TestSA1EndingBytes(t *testing.T) {
	cases := []struct {
		taken uint64
		zeros int
		count []byte
	}{
		{0, 55, []byte{0, 0, 0, 0, 0, 0, 0, 0}},
		{1, 54, []byte{0, 0, 0, 0, 0, 0, 0, 8}},
		{55, 0, []byte{0, 0, 0, 0, 0, 0, 1, 184}},
		{56, 63, []byte{0, 0, 0, 0, 0, 0, 1, 192}},
		{63, 56, []byte{0, 0, 0, 0, 0, 0, 1, 248}},
		{64, 55, []byte{0, 0, 0, 0, 0, 0, 2, 0}},
		{119, 0, []byte{0, 0, 0, 0, 0, 0, 3, 184}},
		{120, 63, []byte{0, 0, 0, 0, 0, 0, 3, 192}},
		{1 << 29, 55, []byte{0, 0, 0, 1, 0, 0, 0, 0}},
		{1<<31 - 1, 56, []byte{0, 0, 0, 3, 255, 255, 255, 248}},
	}
	for _, c := range cases {
		want := slices.Concat([]byte{128}, make([]byte, c.zeros), c.count)
		if end, n := ending(c.taken); !bytes.Equal(end[:n], want) {
			t.Errorf("behind %d bytes: got %v, want %v", c.taken, end[:n], want)
		}
	}
}

// TestSA1CountAbove32Bits: so many bytes that how many bits they are does not fit into 4 bytes.
func TestSA1CountAbove32Bits(t *testing.T) {
	if testing.Short() {
		t.Skip("takes some seconds")
	}
	piece := counted(1 << 20)
	h, other := New(), sha256.New()
	for range 1<<9 + 1 {
		h.Write(piece)
		other.Write(piece)
	}
	holds(t, "Sum of more than 2^32 bits", h.Sum(), [32]byte(other.Sum(nil)))
}

// TestSA2EveryBit: each bit of a block, and of the one behind it, has its say.
func TestSA2EveryBit(t *testing.T) {
	b := make([]byte, 128)
	for i := range 8 * len(b) {
		b[i/8] ^= 1 << (i % 8)
		holds(t, "Sum with one bit", Sum(b), sha256.Sum256(b))
		b[i/8] = 0
	}
	for _, x := range []byte{1, 127, 128, 255} {
		same := bytes.Repeat([]byte{x}, 200)
		holds(t, "Sum of equal bytes", Sum(same), sha256.Sum256(same))
	}
}

// TestSA2BlocksInOrder: each block is mixed into what those ahead of it left.
func TestSA2BlocksInOrder(t *testing.T) {
	one, two := bytes.Repeat([]byte{1}, 64), bytes.Repeat([]byte{2}, 64)
	ahead, behind := slices.Concat(one, two), slices.Concat(two, one)
	holds(t, "one, two", Sum(ahead), sha256.Sum256(ahead))
	holds(t, "two, one", Sum(behind), sha256.Sum256(behind))
	if Sum(ahead) == Sum(behind) {
		t.Error("the order of blocks does not tell")
	}
}

// TestSA3TwoPieces: every way to cut bytes in two.
func TestSA3TwoPieces(t *testing.T) {
	for _, n := range []int{0, 1, 55, 56, 57, 63, 64, 65, 119, 120, 121, 127, 128, 129, 200} {
		all := counted(n)
		want := sha256.Sum256(all)
		for cut := 0; cut <= n; cut++ {
			h := New()
			h.Write(all[:cut])
			h.Write(all[cut:])
			holds(t, "Sum of two pieces", h.Sum(), want)
		}
	}
}

// TestSA3EqualPieces: pieces of every length up to more than two blocks.
func TestSA3EqualPieces(t *testing.T) {
	all := counted(400)
	want := sha256.Sum256(all)
	for n := 1; n <= 130; n++ {
		h := New()
		for piece := range slices.Chunk(all, n) {
			h.Write(piece)
		}
		holds(t, "Sum of equal pieces", h.Sum(), want)
	}
}

// TestSA3SumOnTheWay: Sum tells what was written so far, and changes nothing, however often it is asked.
func TestSA3SumOnTheWay(t *testing.T) {
	all := counted(200)
	h := New()
	for n := range all {
		want := sha256.Sum256(all[:n])
		holds(t, "Sum on the way", h.Sum(), want)
		holds(t, "Sum once more", h.Sum(), want)
		h.Write(all[n : n+1])
	}
	holds(t, "Sum at the end", h.Sum(), sha256.Sum256(all))
}

// TestSA3EmptyPieces: nil and empty pieces are nothing, wherever they come.
func TestSA3EmptyPieces(t *testing.T) {
	h := New()
	h.Write(nil)
	holds(t, "Sum of nil", h.Sum(), sha256.Sum256(nil))
	h.Write([]byte{})
	holds(t, "Sum of empty", h.Sum(), sha256.Sum256(nil))
	holds(t, "Sum of an empty list", Sum([]byte{}), sha256.Sum256(nil))
	h.Write(counted(64))
	h.Write(nil)
	holds(t, "Sum of a block and nil", h.Sum(), sha256.Sum256(counted(64)))
	h.Write([]byte{})
	h.Write([]byte{9})
	holds(t, "Sum of a block, empty, and one", h.Sum(), sha256.Sum256(append(counted(64), 9)))
}

// TestSA3SumBehind: of a byte and of no part, of one, of several, of empty ones too, as of all in one.
func TestSA3SumBehind(t *testing.T) {
	all := counted(150)
	holds(t, "no parts", SumBehind(7), sha256.Sum256([]byte{7}))
	for _, first := range []byte{0, 1, 255} {
		for _, a := range []int{0, 1, 31, 32, 55, 62, 63, 64, 100} {
			for _, b := range []int{a, a + 1, 101, 150} {
				got := SumBehind(first, all[:a], nil, all[a:b], []byte{}, all[b:])
				holds(t, "parts", got, sha256.Sum256(append([]byte{first}, all...)))
			}
			holds(t, "one part", SumBehind(first, all[:a]), sha256.Sum256(append([]byte{first}, all[:a]...)))
		}
	}
	if !bytes.Equal(all, counted(150)) {
		t.Error("what was handed in is written into")
	}
}

// TestSA3HashersApart: what one takes is nothing to another one, nor to Sum.
func TestSA3HashersApart(t *testing.T) {
	a, b := New(), New()
	a.Write(counted(70))
	b.Write([]byte("abc"))
	holds(t, "New of late", New().Sum(), sha256.Sum256(nil))
	holds(t, "Sum beside", Sum([]byte("x")), sha256.Sum256([]byte("x")))
	a.Write([]byte{1})
	holds(t, "the first one", a.Sum(), sha256.Sum256(append(counted(70), 1)))
	holds(t, "the second one", b.Sum(), sha256.Sum256([]byte("abc")))
}

// TestP2PiecesNotKept: what is handed in may be changed behind the call, and is not changed by it.
func TestP2PiecesNotKept(t *testing.T) {
	for _, n := range []int{3, 64, 100} {
		piece := counted(n)
		h := New()
		h.Write(piece)
		clear(piece)
		holds(t, "Sum of what was cleared behind", h.Sum(), sha256.Sum256(counted(n)))
	}
	piece := counted(150)
	Sum(piece)
	h := New()
	h.Write(piece)
	h.Sum()
	if !bytes.Equal(piece, counted(150)) {
		t.Error("what was handed in is written into")
	}
}

// TestP4BehindTheLength: what lies behind a list's length is neither read nor written.
func TestP4BehindTheLength(t *testing.T) {
	for _, n := range []int{0, 1, 55, 56, 63, 64, 65} {
		whole := counted(n + 100)
		holds(t, "Sum of a part", Sum(whole[:n]), sha256.Sum256(bytes.Clone(whole[:n])))
		h := New()
		h.Write(whole[:n])
		holds(t, "Sum of a piece that is a part", h.Sum(), sha256.Sum256(bytes.Clone(whole[:n])))
		if !bytes.Equal(whole, counted(n+100)) {
			t.Errorf("behind %d bytes is written", n)
		}
	}
}

func FuzzPieces(f *testing.F) {
	f.Add([]byte(nil), 0)
	f.Add(counted(64), 63)
	f.Add(counted(120), 56)
	f.Fuzz(func(t *testing.T, b []byte, cut int) {
		if cut < 0 || cut > len(b) {
			cut = len(b) / 2
		}
		want := sha256.Sum256(b)
		h := New()
		h.Write(b[:cut])
		holds(t, "Sum on the way", h.Sum(), sha256.Sum256(b[:cut]))
		h.Write(b[cut:])
		holds(t, "Sum of pieces", h.Sum(), want)
		holds(t, "Sum", Sum(b), want)
	})
}
