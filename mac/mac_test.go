package mac

import (
	"bytes"
	"crypto/hkdf"
	"crypto/hmac"
	"crypto/sha256"
	"encoding/hex"
	"math"
	"strings"
	"testing"

	"moneyer/api"
	"moneyer/plain"
)

// counted makes n bytes, no two neighbours of them the same, from a first one on.
func counted(n int, first byte) []byte {
	b := make([]byte, n)
	for i := range b {
		b[i] = first + byte(i*7+i/64*3)
	}
	return b
}

func unhex(t *testing.T, s string) []byte {
	t.Helper()
	b, err := hex.DecodeString(s)
	if err != nil {
		t.Fatal(err)
	}
	return b
}

// otherMac is what Mac is to tell, by another program.
func otherMac(key, b []byte) api.Digest {
	h := hmac.New(sha256.New, key)
	h.Write(b)
	return api.Digest(h.Sum(nil))
}

// otherExpand is what Expand is to tell, by another program.
func otherExpand(t *testing.T, key, info []byte, n int) []byte {
	t.Helper()
	b, err := hkdf.Expand(sha256.New, key, string(info), n)
	if err != nil {
		t.Fatal(err)
	}
	return b
}

func holdsMac(t *testing.T, key, b []byte) {
	t.Helper()
	if got, want := Mac(key, b), otherMac(key, b); got != want {
		t.Errorf("Mac, key of %d bytes, %d bytes: got %x, want %x", len(key), len(b), got, want)
	}
}

func holdsExpand(t *testing.T, key, info []byte, n int) {
	t.Helper()
	got, err := Expand(key, info, n)
	if err != nil || !bytes.Equal(got, otherExpand(t, key, info, n)) {
		t.Errorf("Expand, key of %d bytes, info of %d, n = %d: got %x, %v", len(key), len(info), n, got, err)
	}
}

// TestMC1KnownMacs: widely known ones, so that the tests do not hang on another program alone.
func TestMC1KnownMacs(t *testing.T) {
	known := []struct{ key, text, mac string }{
		{strings.Repeat("\x0b", 20), "Hi There", "b0344c61d8db38535ca8afceaf0bf12b881dc200c9833da726e9376c2e32cff7"},
		{"Jefe", "what do ya want for nothing?", "5bdcc146bf60754e6a042426089575c75a003f089d2739839dec58b964ec3843"},
		{strings.Repeat("\xaa", 20), strings.Repeat("\xdd", 50), "773ea91e36800e46854db8ebd09181a72959098b3ef8c122d9635514ced565fe"},
		{strings.Repeat("\xaa", 131), "Test Using Larger Than Block-Size Key - Hash Key First", "60e431591ee0b67f0d8a26aacbf5b77f8e0bc6213728c5140546040f0ee37f54"},
		{"", "", "b613679a0814d9ec772f95d778c35fc5ff1697c493715653c6c712144292c5ad"},
	}
	for _, k := range known {
		got := Mac([]byte(k.key), []byte(k.text))
		if hex.EncodeToString(got[:]) != k.mac {
			t.Errorf("Mac(%q, %q): got %x, want %s", k.key, k.text, got, k.mac)
		}
	}
}

// TestMC1KeyLengths: every length of a key up to more than two blocks, so 63, 64 and 65 too, and none.
func TestMC1KeyLengths(t *testing.T) {
	for n := range 140 {
		holdsMac(t, counted(n, 1), nil)
		holdsMac(t, counted(n, 200), []byte("some text"))
	}
	holdsMac(t, counted(5000, 3), counted(70, 9))
}

// TestMC1TextLengths: every length of the bytes over some blocks.
func TestMC1TextLengths(t *testing.T) {
	for _, key := range [][]byte{nil, []byte("k"), counted(64, 5), counted(65, 5)} {
		for n := range 200 {
			holdsMac(t, key, counted(n, 77))
		}
	}
}

// TestMC1NoKey: nil, empty, and bytes 0 up to a block are the same key; one more byte 0 is another one.
func TestMC1NoKey(t *testing.T) {
	b := []byte("text")
	none := Mac(nil, b)
	for n := range 65 {
		if Mac(make([]byte, n), b) != none {
			t.Errorf("%d bytes 0 are not as no key", n)
		}
	}
	if Mac(make([]byte, 65), b) == none {
		t.Error("65 bytes 0 are as no key")
	}
	if Mac(nil, nil) != Mac([]byte{}, []byte{}) {
		t.Error("nil and empty are not the same")
	}
}

// TestMC1LongKeyIsItsSum: a key longer than a block is as its digest, one of a block is not.
func TestMC1LongKeyIsItsSum(t *testing.T) {
	for _, n := range []int{63, 64, 65, 66, 128, 1000} {
		key := counted(n, 11)
		sum := sha256.Sum256(key)
		if same := Mac(key, []byte("b")) == Mac(sum[:], []byte("b")); same != (n > 64) {
			t.Errorf("a key of %d bytes is as its sum: %v", n, same)
		}
	}
}

// TestMC1KeyAndTextApart: a byte of the key is no byte of the text.
func TestMC1KeyAndTextApart(t *testing.T) {
	if Mac([]byte("ab"), []byte("c")) == Mac([]byte("a"), []byte("bc")) {
		t.Error("where the key ends does not tell")
	}
	if Mac([]byte("a"), []byte("b")) == Mac([]byte("b"), []byte("a")) {
		t.Error("which of them is the key does not tell")
	}
}

// TestMC2KnownBytes: widely known ones, with info and without.
func TestMC2KnownBytes(t *testing.T) {
	known := []struct{ key, info, out string }{
		{
			"077709362c2e32df0ddc3f0dc47bba6390b6c73bb50f9c3122ec844ad7c2b3e5", "f0f1f2f3f4f5f6f7f8f9",
			"3cb25f25faacd57a90434f64d0362f2a2d2d0a90cf1a5a4c5db02d56ecc4c5bf34007208d5b887185865",
		},
		{
			"19ef24a32c717b167f33a91d6f648bdf96596776afdb6377ac434c1c293ccb04", "",
			"8da4e775a563c18f715f802a063c5a31b8a11f5c5ee1879ec3454e5f3c738d2d9d201395faa4b61a96c8",
		},
	}
	for _, k := range known {
		got, err := Expand(unhex(t, k.key), unhex(t, k.info), len(k.out)/2)
		if err != nil || hex.EncodeToString(got) != k.out {
			t.Errorf("Expand(%s, %s): got %x, %v", k.key, k.info, got, err)
		}
	}
}

// TestMC2Turns: each turn is Mac of the one ahead of it, info, and its number.
func TestMC2Turns(t *testing.T) {
	key, info := []byte("key"), []byte("info")
	t1 := otherMac(key, []byte("info\x01"))
	t2 := otherMac(key, append(t1[:], "info\x02"...))
	t3 := otherMac(key, append(t2[:], "info\x03"...))
	want := bytes.Join([][]byte{t1[:], t2[:], t3[:]}, nil)
	if got, err := Expand(key, info, 96); err != nil || !bytes.Equal(got, want) {
		t.Errorf("got %x, %v, want %x", got, err, want)
	}
}

// TestMC2AllCounts: every n there is: 0, 32 and its multiples, those next to them, MaxOut; each has as its beginning what a smaller n tells.
func TestMC2AllCounts(t *testing.T) {
	key, info := counted(40, 6), []byte("what for")
	want := otherExpand(t, key, info, api.MaxOut)
	for n := 0; n <= api.MaxOut; n++ {
		got, err := Expand(key, info, n)
		if err != nil || len(got) != n || !bytes.Equal(got, want[:n]) {
			t.Fatalf("n = %d: got %d bytes, %x, %v", n, len(got), got, err)
		}
	}
}

// TestMC2KeysAndInfos: keys round a block's length and none, infos of some lengths and none.
func TestMC2KeysAndInfos(t *testing.T) {
	for _, k := range []int{0, 1, 32, 63, 64, 65, 128, 500} {
		for _, i := range []int{0, 1, 23, 31, 32, 63, 64, 300} {
			for _, n := range []int{1, 31, 32, 33, 64, 65, 1984, 1985, api.MaxOut} {
				holdsExpand(t, counted(k, 4), counted(i, 90), n)
			}
		}
	}
}

// TestMC2OutOfRange: n below 0 and above MaxOut.
func TestMC2OutOfRange(t *testing.T) {
	for _, n := range []int{-1, -32, math.MinInt, api.MaxOut + 1, 2 * api.MaxOut, 255 * 32, 1 << 32, math.MaxInt} {
		for _, key := range [][]byte{nil, []byte("k"), counted(65, 1)} {
			got, err := Expand(key, nil, n)
			if got != nil || plain.Told(err) != api.ErrRange {
				t.Errorf("n = %d: got %x, %v", n, got, err)
			}
		}
	}
}

// TestP2FreshMemory: what is handed in stays as it is, and answers share nothing.
func TestP2FreshMemory(t *testing.T) {
	for _, n := range []int{20, 64, 65} {
		key, b := counted(n, 1), counted(n, 2)
		Mac(key, b)
		first, _ := Expand(key, b, 70)
		if !bytes.Equal(key, counted(n, 1)) || !bytes.Equal(b, counted(n, 2)) {
			t.Errorf("%d bytes: what was handed in is written into", n)
		}
		clear(first)
		second, _ := Expand(key, b, 70)
		if want := otherExpand(t, key, b, 70); !bytes.Equal(second, want) {
			t.Errorf("%d bytes: got %x behind a change of the first answer, want %x", n, second, want)
		}
		clear(key)
		clear(b)
		if want := otherExpand(t, counted(n, 1), counted(n, 2), 70); !bytes.Equal(second, want) {
			t.Errorf("%d bytes: an answer hangs on what was handed in", n)
		}
	}
}

// TestP2OneListTwice: the same memory as the key and as the bytes.
func TestP2OneListTwice(t *testing.T) {
	for _, n := range []int{0, 1, 64, 65} {
		same := counted(n, 8)
		holdsMac(t, same, same)
		holdsExpand(t, same, same, 100)
	}
}

// TestP4BehindTheLength: what lies behind a list's length is neither read nor written.
func TestP4BehindTheLength(t *testing.T) {
	for _, n := range []int{0, 1, 63, 64, 65} {
		key, b := counted(n+100, 1), counted(n+100, 2)
		if Mac(key[:n], b[:n]) != otherMac(counted(n, 1), counted(n, 2)) {
			t.Errorf("Mac reads behind %d bytes", n)
		}
		got, err := Expand(key[:n], b[:n], 70)
		if err != nil || !bytes.Equal(got, otherExpand(t, counted(n, 1), counted(n, 2), 70)) {
			t.Errorf("Expand reads behind %d bytes", n)
		}
		if !bytes.Equal(key, counted(n+100, 1)) || !bytes.Equal(b, counted(n+100, 2)) {
			t.Errorf("behind %d bytes is written", n)
		}
	}
}

func FuzzMac(f *testing.F) {
	f.Add([]byte(nil), []byte(nil), 0)
	f.Add(counted(64, 1), counted(10, 2), 32)
	f.Add(counted(65, 1), counted(64, 2), 2001)
	f.Fuzz(func(t *testing.T, key, b []byte, n int) {
		holdsMac(t, key, b)
		if n >= 0 && n <= api.MaxOut {
			holdsExpand(t, key, b, n)
			return
		}
		if got, err := Expand(key, b, n); got != nil || plain.Told(err) != api.ErrRange {
			t.Errorf("n = %d: got %x, %v", n, got, err)
		}
	})
}
