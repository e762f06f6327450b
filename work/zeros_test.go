package work

import (
	"crypto/sha256"
	"math/rand"
	"testing"

	"moneyer/api"
)

// oneAt: a digest of which one bit alone is 1.
func oneAt(place int) api.Digest {
	var d api.Digest
	d[place/8] = 128 >> (place % 8)
	return d
}

// onesFrom: a digest of which all bits from a place on are 1.
func onesFrom(place int) api.Digest {
	var d api.Digest
	for ; place < 256; place++ {
		d[place/8] |= 128 >> (place % 8)
	}
	return d
}

// drawnFrom: a digest of which the first bit that is 1 stands at a place, and those behind it are drawn by lot.
func drawnFrom(r *rand.Rand, place int) api.Digest {
	d := oneAt(place)
	for place++; place < 256; place++ {
		d[place/8] |= byte(r.Intn(2)) << (7 - place%8)
	}
	return d
}

func TestWK1Known(t *testing.T) {
	for _, k := range []struct {
		name  string
		d     api.Digest
		zeros int
	}{
		{"bytes 0 alone", api.Digest{}, 256},
		{"the highest bit", api.Digest{128}, 0},
		{"all of the first byte", api.Digest{255}, 0},
		{"the lowest bit of the first byte", api.Digest{1}, 7},
		{"3 in the first byte", api.Digest{3}, 6},
		{"the highest bit of the second byte", api.Digest{0, 128}, 8},
		{"16 in the second byte", api.Digest{0, 16}, 11},
		{"16 in the second byte, and others behind it", api.Digest{0, 16, 255, 255, 31: 255}, 11},
		{"a byte 0 between", api.Digest{2, 0, 0, 1}, 6},
		{"the last byte alone", api.Digest{31: 255}, 248},
		{"the lowest bit of all", api.Digest{31: 1}, 255},
		{"the digest of no bytes", sha256.Sum256(nil), 0},
		{"a digest of a number", sha256.Sum256([]byte{253, 2, 140}), 11},
	} {
		looks(t, k.name, k.d, k.zeros)
	}
}

// TestWK1EachPlace: the first 1 stands at each place, with nothing but 0 behind it, nothing but 1, and whatever there may be.
func TestWK1EachPlace(t *testing.T) {
	r := rand.New(rand.NewSource(11))
	for place := range 256 {
		looks(t, "one", oneAt(place), place)
		looks(t, "ones", onesFrom(place), place)
		for range 5 {
			looks(t, "drawn", drawnFrom(r, place), place)
		}
	}
	looks(t, "none", api.Digest{}, 256)
}

// TestWK1EachByte: each byte, as the first one that is not 0, at each place.
func TestWK1EachByte(t *testing.T) {
	for at := range 32 {
		for b := 1; b < 256; b++ {
			var d api.Digest
			d[at] = byte(b)
			if got := Zeros(d); got != otherZeros(d) || got/8 != at {
				t.Errorf("byte %d at %d: Zeros tells %d, the other program %d", b, at, got, otherZeros(d))
			}
		}
	}
}

// TestWK1Good: by one bit more than are 0, by as many, and by one fewer.
func TestWK1Good(t *testing.T) {
	for _, k := range []struct {
		d    api.Digest
		bits int
		want bool
	}{
		{api.Digest{0, 16}, 10, true},
		{api.Digest{0, 16}, 11, true},
		{api.Digest{0, 16}, 12, false},
		{api.Digest{128}, 0, true},
		{api.Digest{128}, 1, false},
		{api.Digest{128}, -1, true},
		{api.Digest{}, 255, true},
		{api.Digest{}, 256, true},
		{api.Digest{}, 257, false},
		{api.Digest{31: 1}, 255, true},
		{api.Digest{31: 1}, 256, false},
		{api.Digest{4: 255}, 32, true},
		{api.Digest{4: 255}, 33, false},
	} {
		if got := Good(k.d, k.bits); got != k.want || otherGood(k.d, k.bits) != k.want {
			t.Errorf("Good(%x, %d): got %v, the other program %v", k.d, k.bits, got, otherGood(k.d, k.bits))
		}
	}
}

// TestWK1GoodAsText: each number of bits of digests of many kinds.
func TestWK1GoodAsText(t *testing.T) {
	r := rand.New(rand.NewSource(12))
	for range 60 {
		d := drawnFrom(r, r.Intn(256))
		for bits := -2; bits < 260; bits++ {
			if Good(d, bits) != otherGood(d, bits) {
				t.Errorf("Good(%x, %d): got %v", d, bits, Good(d, bits))
			}
		}
	}
}

func TestWK1WorkKnown(t *testing.T) {
	for bits, want := range map[int]int{
		0: 1, 1: 2, 2: 4, 3: 8, 5: 32, 7: 128, 8: 256, 10: 1024, 16: 65536, 20: 1048576, 30: 1073741824, 31: 2147483648,
		32: 4294967296, 33: 8589934592, 39: 549755813888, 40: 1099511627776,
	} {
		if got := works(t, bits, api.OK); got != want {
			t.Errorf("Work(%d): got %d, want %d", bits, got, want)
		}
	}
}

// TestWK1Works: each number of bits that may be; one more is twice as much.
func TestWK1Works(t *testing.T) {
	for bits := range mostBits {
		if less, more := works(t, bits, api.OK), works(t, bits+1, api.OK); more != 2*less {
			t.Errorf("%d bits are %d, one more %d", bits, less, more)
		}
	}
}

func TestWK1WorkRange(t *testing.T) {
	for _, bits := range noBits {
		works(t, bits, api.ErrRange)
	}
	for bits := mostBits + 1; bits < 300; bits++ {
		works(t, bits, api.ErrRange)
		works(t, mostBits-bits, api.ErrRange)
	}
}
