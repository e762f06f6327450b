package work

import (
	"bytes"
	"testing"

	"moneyer/api"
	"moneyer/sha"
	"moneyer/size"
)

// TestWK3Known: worked out apart.
func TestWK3Known(t *testing.T) {
	zeros, ones := make([]byte, 64), bytes.Repeat([]byte{255}, 1000)
	for _, k := range []struct {
		b             []byte
		from, bits, n int
	}{
		{nil, 0, 0, 0}, {nil, 0, 1, 0}, {nil, 0, 2, 3}, {nil, 0, 5, 10}, {nil, 0, 8, 652}, {nil, 0, 10, 652}, {nil, 0, 12, 3077}, {nil, 0, 16, 26381},
		{nil, 200, 4, 214}, {nil, 200, 5, 251}, {nil, 65000, 8, 65463}, {nil, 65000, 12, 72137},
		{nil, 1073741819, 1, 1073741819}, {nil, 1073741819, 5, 1073741821}, {nil, 1073741819, 10, 1073742063}, {nil, 1073741819, 12, 1073745856},
		{[]byte("abc"), 0, 1, 5}, {[]byte("abc"), 0, 2, 18}, {[]byte("abc"), 0, 8, 44}, {[]byte("abc"), 0, 12, 2128}, {[]byte("abc"), 0, 16, 61066},
		{[]byte("abc"), 200, 1, 204}, {[]byte("abc"), 200, 8, 260}, {[]byte("abc"), 65000, 16, 77653}, {[]byte("abc"), 1073741819, 8, 1073741866},
		{[]byte("moneyer"), 0, 3, 0}, {[]byte("moneyer"), 0, 4, 10}, {[]byte("moneyer"), 0, 8, 121}, {[]byte("moneyer"), 65000, 10, 65265},
		{zeros, 0, 2, 1}, {zeros, 0, 5, 55}, {zeros, 0, 8, 786}, {zeros, 200, 8, 786}, {zeros, 65000, 10, 65953}, {zeros, 1073741819, 2, 1073741824},
		{ones, 0, 3, 0}, {ones, 0, 8, 516}, {ones, 200, 3, 222}, {ones, 65000, 10, 68362}, {ones, 1073741819, 4, 1073741837},
	} {
		if got := mines(t, k.b, k.from, 100000, k.bits, api.OK); got != k.n {
			t.Errorf("Mine(%.20x, %d, .., %d): got %d, want %d", k.b, k.from, k.bits, got, k.n)
		}
	}
}

// TestWK3KnownOfManyBits: numbers that took long to be found, worked out apart: each is the least one that has so many bits of all from 0 on.
func TestWK3KnownOfManyBits(t *testing.T) {
	for _, k := range []struct {
		text    string
		bits, n int
	}{
		{"", 17, 26381}, {"", 18, 353684}, {"", 19, 763919}, {"", 23, 1636253}, {"", 25, 3749378}, {"", 27, 42555415}, {"", 28, 135747950},
		{"moneyer", 18, 149455}, {"moneyer", 20, 1183965}, {"moneyer", 22, 1903825}, {"moneyer", 26, 120670877}, {"moneyer", 28, 443081155}, {"moneyer", 30, 821425977},
		{"", 30, 1015587328}, {"moneyer 5", 35, 899297682}, {"moneyer 15", 35, 203749571},
	} {
		for _, ahead := range []int{0, 1, 1000} {
			if got := mines(t, []byte(k.text), k.n-ahead, ahead+1, k.bits, api.OK); got != k.n {
				t.Errorf("Mine(%q, %d, .., %d): got %d, want %d", k.text, k.n-ahead, k.bits, got, k.n)
			}
			mines(t, []byte(k.text), k.n-ahead, ahead, k.bits, api.ErrNone)
		}
		mines(t, []byte(k.text), k.n, 100, k.bits+1, api.ErrNone)
		mines(t, []byte(k.text), k.n, 100, mostBits, api.ErrNone)
	}
}

// TestWK3Least: all that Mine tells, number by number, of each of them that is the least one: the first one tried, the last one, and one beyond.
func TestWK3Least(t *testing.T) {
	for _, b := range texts() {
		for _, bits := range []int{0, 1, 2, 3, 5, 8} {
			for from, rounds := 0, 0; rounds < 4; rounds++ {
				n := mines(t, b, from, 10000, bits, api.OK)
				mines(t, b, n, 1, bits, api.OK)
				mines(t, b, n, 0, bits, api.ErrNone)
				mines(t, b, from, n-from+1, bits, api.OK)
				mines(t, b, from, n-from, bits, api.ErrNone)
				if n > from {
					mines(t, b, n-1, 2, bits, api.OK)
					mines(t, b, n-1, 1, bits, api.ErrNone)
				}
				from = n + 1
			}
		}
	}
}

// TestWK3EachFrom: from each number on, over the edges at which a number has more bytes, too.
func TestWK3EachFrom(t *testing.T) {
	for _, start := range []int{0, 240, 65500, highest - 50} {
		for from := start; from < start+50; from++ {
			for _, b := range [][]byte{nil, []byte("abc"), make([]byte, 64)} {
				for bits := range 7 {
					mines(t, b, from, 2000, bits, api.OK)
				}
			}
		}
	}
}

// TestWK3EachLength: of bytes of each length over some blocks; what is found is Good by Sum and Write.
func TestWK3EachLength(t *testing.T) {
	b := make([]byte, 260)
	for i := range b {
		b[i] = byte(7*i + 1)
	}
	for long := range b {
		for _, from := range []int{0, 250, 65530, highest} {
			n := mines(t, b[:long], from, 5000, 6, api.OK)
			number, err := size.Write(n)
			if err != nil || Zeros(sha.Sum(append(bytes.Clone(b[:long]), number...))) < 6 {
				t.Errorf("%d bytes, from %d: %d is not good", long, from, n)
			}
		}
	}
}

// TestWK3OfNoBits: the first number is good by 0 bits, however many may be tried.
func TestWK3OfNoBits(t *testing.T) {
	for _, b := range texts() {
		for _, from := range []int{0, 1, 7, 252, 253, 65535, 65536, highest - 1, highest} {
			for _, tries := range []int{1, 2, 1000, highest - 1, highest} {
				if got := mines(t, b, from, tries, 0, api.OK); got != from {
					t.Errorf("Mine(%.20x, %d, %d, 0): got %d", b, from, tries, got)
				}
			}
		}
	}
}

// TestWK3NoTries: of none at all none is good.
func TestWK3NoTries(t *testing.T) {
	for _, b := range texts() {
		for _, from := range []int{0, 1, 253, highest - 1, highest} {
			for _, bits := range []int{0, 1, 5, 39, 40} {
				mines(t, b, from, 0, bits, api.ErrNone)
			}
		}
	}
}

// TestWK3Beyond: what is tried may be above MaxHeight, if what is the first one is not.
func TestWK3Beyond(t *testing.T) {
	for _, b := range texts() {
		for _, bits := range []int{1, 4, 8} {
			if n := mines(t, b, highest, 20000, bits, api.OK); n < highest {
				t.Errorf("Mine(%.20x, 2^30, .., %d): got %d", b, bits, n)
			}
			mines(t, b, highest-3, 20000, bits, api.OK)
		}
	}
	mines(t, nil, highest, 2000, mostBits, api.ErrNone)
}

// TestWK3MostBits: none is found soon that has as many bits as may be.
func TestWK3MostBits(t *testing.T) {
	for _, b := range texts() {
		for _, bits := range []int{mostBits - 1, mostBits} {
			mines(t, b, 0, 500, bits, api.ErrNone)
			mines(t, b, highest, 1, bits, api.ErrNone)
		}
	}
}

// TestWK3Range: each of the three by itself, each two, and all of them, are not what they are to be.
func TestWK3Range(t *testing.T) {
	for _, b := range [][]byte{nil, []byte("abc"), make([]byte, 300)} {
		for _, outside := range noHeights {
			for _, bits := range []int{0, 1, 40} {
				for _, inside := range []int{0, 1, highest} {
					mines(t, b, outside, inside, bits, api.ErrRange)
					mines(t, b, inside, outside, bits, api.ErrRange)
				}
				mines(t, b, outside, outside, bits, api.ErrRange)
			}
		}
		for _, bits := range noBits {
			for _, from := range []int{0, 1, highest} {
				for _, tries := range []int{0, 1, 1000, highest} {
					mines(t, b, from, tries, bits, api.ErrRange)
				}
			}
			for _, outside := range noHeights {
				mines(t, b, outside, 1, bits, api.ErrRange)
				mines(t, b, 1, outside, bits, api.ErrRange)
				mines(t, b, outside, outside, bits, api.ErrRange)
			}
		}
	}
}

// TestWK3RangeAheadOfNone: where there is none, too, that a number is not what it is to be is told.
func TestWK3RangeAheadOfNone(t *testing.T) {
	for _, k := range [][3]int{
		{-1, 0, 0}, {-1, 0, 40}, {highest + 1, 0, 0}, {highest + 1, 5, 40}, {-1, 5, 40},
		{0, -1, 0}, {0, -1, 40}, {0, highest + 1, 0}, {highest, -1, 40},
		{0, 0, -1}, {0, 0, 41}, {0, 5, 41}, {highest, 0, 41}, {5, 0, -1},
	} {
		mines(t, []byte("abc"), k[0], k[1], k[2], api.ErrRange)
	}
}

// TestWK3LongBytes: many bytes, and many numbers behind them, which would take minutes if all were digested anew for each number.
func TestWK3LongBytes(t *testing.T) {
	b := bytes.Repeat([]byte("long"), 1<<20)
	h := sha.New()
	h.Write(b)
	want := 0
	for ; ; want++ {
		each := *h
		each.Write(otherWrite(want))
		if otherZeros(each.Sum()) >= 13 {
			break
		}
	}
	got, err := Mine(b, 0, want+1, 13)
	if err != nil || got != want {
		t.Errorf("got %d, %v, want %d", got, err, want)
	}
	if got, err := Mine(b, 0, want, 13); err == nil || got != 0 {
		t.Errorf("one try fewer: got %d, %v", got, err)
	}
}
