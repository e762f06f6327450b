package work

import (
	"bytes"
	"crypto/sha256"
	"encoding/binary"
	"math"
	"math/big"
	"slices"
	"strconv"
	"strings"
	"testing"

	"moneyer/api"
	"moneyer/plain"
)

// This file has what the calls are to tell, in other words: a digest is a great number, or a text of 0s and 1s; numbers are halved, not doubled; each try digests all bytes anew.

// The numbers of WK1 to WK3, written out, so that the tests do not hang on those of package api.
const (
	mostBits = 40
	highest  = 1073741824 // 2^30
)

// noBits has numbers of bits that are none, on both sides.
var noBits = []int{-1, mostBits + 1, -2, -mostBits, -mostBits - 1, mostBits + 2, 62, 63, 64, 65, 104, 255, 256, 257, 296, 1 << 32, 1<<32 + 5, -1 << 32, 1 << 62, math.MinInt32, math.MaxInt32, math.MinInt, math.MinInt + 1, math.MaxInt - 1, math.MaxInt}

// noHeights has numbers that are not from 0 to MaxHeight, on both sides.
var noHeights = []int{-1, highest + 1, -2, -highest, -highest - 1, highest + 2, 2 * highest, 1 << 32, 1<<32 + 5, -1 << 32, 1 << 62, math.MinInt32, math.MaxInt32, math.MinInt, math.MinInt + 1, math.MaxInt - 1, math.MaxInt}

// isFrom0 tells if a number is from 0 to another one.
func isFrom0(n, most int) bool { return n > -1 && n < most+1 }

// otherZeros: of 256 bits, those that the digest does not need as a number.
func otherZeros(d api.Digest) int {
	return 256 - new(big.Int).SetBytes(d[:]).BitLen()
}

// otherGood: as a text, the digest begins with so many 0s.
func otherGood(d api.Digest, bits int) bool {
	var text strings.Builder
	for _, b := range d {
		text.WriteString(strconv.FormatInt(256+int64(b), 2)[1:])
	}
	return bits <= 256 && strings.HasPrefix(text.String(), strings.Repeat("0", max(bits, 0)))
}

func otherWork(bits int) (int, api.Errno) {
	if !isFrom0(bits, 40) {
		return 0, api.ErrRange
	}
	work := 1
	for range bits {
		work += work
	}
	return work, api.OK
}

func otherNext(bits, took, want int) (int, api.Errno) {
	switch {
	case !isFrom0(bits, 40), !isFrom0(took, 1<<30), !isFrom0(want-1, 1<<30-1):
		return 0, api.ErrRange
	case took <= want/2 && bits < 40:
		return bits + 1, api.OK
	case took/2 >= want && bits > 0:
		return bits - 1, api.OK
	}
	return bits, api.OK
}

// otherWrite: a number, as chapter 1 has it, which is below 2^32.
func otherWrite(n int) []byte {
	switch {
	case n >= 65536:
		return binary.BigEndian.AppendUint32([]byte{254}, uint32(n))
	case n >= 253:
		return binary.BigEndian.AppendUint16([]byte{253}, uint16(n))
	}
	return []byte{byte(n)}
}

// otherDigest: that of bytes and a number.
func otherDigest(b []byte, n int) api.Digest {
	return sha256.Sum256(slices.Concat(b, otherWrite(n)))
}

func otherMine(b []byte, from, tries, bits int) (int, api.Errno) {
	if !isFrom0(from, 1<<30) || !isFrom0(tries, 1<<30) || !isFrom0(bits, 40) {
		return 0, api.ErrRange
	}
	for i := range tries {
		if otherZeros(otherDigest(b, from+i)) >= bits {
			return from + i, api.OK
		}
	}
	return 0, api.ErrNone
}

// looks holds what Zeros tells of a digest, and Good by every number of bits there is, and some beyond.
func looks(t *testing.T, name string, d api.Digest, zeros int) {
	t.Helper()
	if got := Zeros(d); got != zeros || otherZeros(d) != zeros {
		t.Errorf("%s %x: Zeros tells %d, the other program %d, want %d", name, d, got, otherZeros(d), zeros)
	}
	for bits := -3; bits < 270; bits++ {
		if got := Good(d, bits); got != (bits <= zeros) {
			t.Errorf("%s %x: Good by %d tells %v, and %d are 0", name, d, bits, got, zeros)
		}
	}
	for _, bits := range []int{math.MinInt, math.MinInt + 1, math.MinInt32, -256, -1 << 32} {
		if !Good(d, bits) {
			t.Errorf("%s %x: Good by %d tells false", name, d, bits)
		}
	}
	for _, bits := range []int{math.MaxInt, math.MaxInt - 1, math.MaxInt32, 512, 1 << 32} {
		if Good(d, bits) {
			t.Errorf("%s %x: Good by %d tells true", name, d, bits)
		}
	}
}

// works holds what Work tells, and tells it.
func works(t *testing.T, bits int, want api.Errno) int {
	t.Helper()
	got, err := Work(bits)
	other, told := otherWork(bits)
	if plain.Told(err) != want || told != want || got != other {
		t.Errorf("Work(%d) tells %d, %v, the other program %d, %v, want %v", bits, got, err, other, told, want)
	}
	return got
}

// nexts holds what Next tells, and tells it.
func nexts(t *testing.T, bits, took, want int, wrong api.Errno) int {
	t.Helper()
	got, err := Next(bits, took, want)
	other, told := otherNext(bits, took, want)
	if plain.Told(err) != wrong || told != wrong || got != other {
		t.Errorf("Next(%d, %d, %d) tells %d, %v, the other program %d, %v, want %v", bits, took, want, got, err, other, told, wrong)
	}
	return got
}

// mines holds what Mine tells, and tells it.
func mines(t *testing.T, b []byte, from, tries, bits int, wrong api.Errno) int {
	t.Helper()
	before := bytes.Clone(b)
	got, err := Mine(b, from, tries, bits)
	other, told := otherMine(b, from, tries, bits)
	if plain.Told(err) != wrong || told != wrong || got != other {
		t.Errorf("Mine(%.40x, %d, %d, %d) tells %d, %v, the other program %d, %v, want %v", b, from, tries, bits, got, err, other, told, wrong)
	}
	if !bytes.Equal(b, before) {
		t.Errorf("Mine(%.40x, %d, %d, %d) changes what it is given", before, from, tries, bits)
	}
	return got
}

// texts has bytes to be mined of: none, few, as many as fill a block, and more.
func texts() [][]byte {
	counted := make([]byte, 300)
	for i := range counted {
		counted[i] = byte(i)
	}
	return [][]byte{nil, {}, {0}, {255}, []byte("abc"), []byte("moneyer"), make([]byte, 55), make([]byte, 64), counted[:63], counted[:64], counted[:65], counted}
}
