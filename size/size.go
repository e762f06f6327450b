// Package size has numbers and bytes.
package size

import (
	"bytes"
	"math"
	"slices"

	"moneyer/api"
)

// A first byte from twoBehind on is no number of its own: the number stands in the bytes behind it.
const (
	twoBehind   = 253
	fourBehind  = 254
	eightBehind = 255
)

// Write tells a number's bytes.
func Write(n int) ([]byte, error) {
	if n < 0 {
		return nil, api.ErrRange
	}
	first := firstOf(uint64(n))
	b := make([]byte, 1+behind(first))
	b[0] = first
	for i := len(b) - 1; i > 0; i-- {
		b[i] = byte(n)
		n >>= 8
	}
	return b, nil
}

// Read tells the number at a place, and the place behind it.
func Read(b []byte, at int) (int, int, error) {
	if at < 0 {
		return 0, 0, api.ErrRange
	}
	if at >= len(b) {
		return 0, 0, api.ErrLength
	}
	first, rest := b[at], b[at+1:]
	width := behind(first)
	if len(rest) < width {
		return 0, 0, api.ErrLength
	}
	n := uint64(first)
	if width > 0 {
		n = join(rest[:width])
	}
	if firstOf(n) != first || n > math.MaxInt64 {
		return 0, 0, api.ErrSyntax
	}
	return int(n), at + 1 + width, nil
}

// Pack tells bytes with how many they are.
func Pack(b []byte) []byte {
	// A length is never below 0, which is all that Write refuses.
	count, _ := Write(len(b))
	return slices.Concat(count, b)
}

// Unpack tells the bytes at a place, and the place behind them.
func Unpack(b []byte, at int) ([]byte, int, error) {
	count, start, err := Read(b, at)
	if err != nil {
		return nil, 0, err
	}
	// Held against what is left, as start + count may be too great for an int.
	if count > len(b)-start {
		return nil, 0, api.ErrLength
	}
	end := start + count
	return bytes.Clone(b[start:end]), end, nil
}

// Within tells if a number is from 0 to the most that it may be.
func Within(n, most int) bool { return n >= 0 && n <= most }

// firstOf tells the byte with which a number begins where it is written as short as can be.
func firstOf(n uint64) byte {
	switch {
	case n < twoBehind:
		return byte(n)
	case n <= math.MaxUint16:
		return twoBehind
	case n <= math.MaxUint32:
		return fourBehind
	}
	return eightBehind
}

// behind tells how many bytes of a number stand behind its first one.
func behind(first byte) int {
	switch first {
	case twoBehind:
		return 2
	case fourBehind:
		return 4
	case eightBehind:
		return 8
	}
	return 0
}

// join tells the number of at most eight bytes, the highest one first.
func join(b []byte) uint64 {
	n := uint64(0)
	for _, x := range b {
		n = n<<8 | uint64(x)
	}
	return n
}
