package work

import (
	"math/rand"
	"testing"

	"moneyer/api"
)

// drawnNumber: from 0 to a bound most times, next to it, or far from it, else.
func drawnNumber(r *rand.Rand, most int) int {
	switch r.Intn(16) {
	case 0:
		return most
	case 1:
		return most + 1
	case 2:
		return -r.Intn(3)
	case 3:
		return int(r.Uint64())
	}
	return r.Intn(most + 1)
}

// drawnNear: what is as great as another number most times, half as much, or twice as much, or next to these.
func drawnNear(r *rand.Rand, n int) int {
	switch r.Intn(4) {
	case 0:
		n /= 2
	case 1:
		n *= 2
	case 2:
		return drawnNumber(r, highest)
	}
	return n + r.Intn(3) - 1
}

// TestWK2Drawn: Next tells what the other program does, and more, less, as many, and an error are told often.
func TestWK2Drawn(t *testing.T) {
	r := rand.New(rand.NewSource(13))
	rounds := 20000
	told := map[int]int{}
	for range rounds {
		bits, want := drawnNumber(r, mostBits), drawnNumber(r, highest>>r.Intn(31))
		took := drawnNear(r, want)
		_, wrong := otherNext(bits, took, want)
		next := nexts(t, bits, took, want, wrong)
		if wrong == api.OK {
			told[next-bits]++
		} else {
			told[2]++
		}
	}
	for _, way := range []int{-1, 0, 1, 2} {
		if told[way] < rounds/50 {
			t.Errorf("Next goes the way %d %d times in %d", way, told[way], rounds)
		}
	}
}

// TestWK3Drawn: Mine tells what the other program does, and each error often.
func TestWK3Drawn(t *testing.T) {
	r := rand.New(rand.NewSource(14))
	rounds := 6000
	if testing.Short() {
		rounds = 1500
	}
	told := map[api.Errno]int{}
	for range rounds {
		b := make([]byte, r.Intn(200))
		r.Read(b)
		from, tries, bits := drawnNumber(r, highest>>r.Intn(31)), drawnNumber(r, 300), r.Intn(14)
		if r.Intn(10) == 0 {
			bits = drawnNumber(r, mostBits)
		}
		// So that it ends soon: all that may be tried is tried nowhere but of few bits.
		if tries > 1000 && bits > 10 {
			tries = 1000
		}
		_, wrong := otherMine(b, from, tries, bits)
		mines(t, b, from, tries, bits, wrong)
		told[wrong]++
	}
	for _, e := range []api.Errno{api.OK, api.ErrRange, api.ErrNone} {
		if told[e] < rounds/20 {
			t.Errorf("Mine tells %v %d times in %d", e, told[e], rounds)
		}
	}
}

func FuzzWork(f *testing.F) {
	f.Add([]byte(nil), 0, 0, 0, 0)
	f.Add([]byte("abc"), 0, 45, 8, 44)
	f.Add(make([]byte, 64), highest, 1000, 5, 1)
	f.Add(make([]byte, 32), highest+1, -1, 41, 0)
	f.Add([]byte{0, 16}, 250, 20, 3, highest)
	f.Fuzz(func(t *testing.T, b []byte, from, tries, bits, want int) {
		var d api.Digest
		copy(d[:], b)
		looks(t, "any", d, otherZeros(d))
		_, wrong := otherWork(bits)
		works(t, bits, wrong)
		for _, n := range []int{want, want & (highest - 1), from / 2, from * 2, from*2 + 1, 10} {
			_, wrong = otherNext(bits, from, n)
			nexts(t, bits, from, n, wrong)
		}
		for _, k := range [][2]int{{tries & 1023, bits}, {tries | -1<<40, bits}, {tries & 1023, bits & 15}} {
			_, wrong = otherMine(b, from, k[0], k[1])
			mines(t, b, from, k[0], k[1], wrong)
			_, wrong = otherMine(b, from&(highest-1), k[0], k[1])
			mines(t, b, from&(highest-1), k[0], k[1], wrong)
		}
	})
}
