package work

import (
	"bytes"
	"testing"

	"moneyer/api"
	"moneyer/plain"
)

// TestP2MineOfPart: what lies behind the length of bytes is neither read nor written, and the bytes stay as they are, whether it ends well or not.
func TestP2MineOfPart(t *testing.T) {
	for n := range 140 {
		b := bytes.Repeat([]byte{9}, n+100)
		part := b[:n]
		for _, from := range []int{0, 250, 65530, highest} {
			want, _ := otherMine(bytes.Clone(part), from, 1000, 5)
			if got, err := Mine(part, from, 1000, 5); err != nil || got != want {
				t.Errorf("%d bytes of more, from %d: got %d, %v, want %d", n, from, got, err, want)
			}
			mines(t, part, from, 3, mostBits, api.ErrNone)
			mines(t, part, from, 0, 0, api.ErrNone)
			mines(t, part, from, 3, mostBits+1, api.ErrRange)
			mines(t, part, -1-from, 3, 5, api.ErrRange)
		}
		if !bytes.Equal(b, bytes.Repeat([]byte{9}, n+100)) {
			t.Errorf("%d bytes of more are written into", n)
		}
	}
}

// TestP2KeepsNothing: what is told hangs on what is handed in alone, also behind errors, and behind a change of what was handed in.
func TestP2KeepsNothing(t *testing.T) {
	b := []byte("abc")
	for range 2 {
		if got := mines(t, b, 0, 10000, 8, api.OK); got != 44 {
			t.Errorf("got %d, want 44", got)
		}
		mines(t, b, 0, 44, 8, api.ErrNone)
		mines(t, b, 0, 44, 41, api.ErrRange)
		mines(t, []byte("ab"), 0, 10000, 8, api.OK)
		nexts(t, 5, 5, 10, api.OK)
		nexts(t, 41, 5, 10, api.ErrRange)
		works(t, 5, api.OK)
		works(t, 41, api.ErrRange)
	}
	copy(b, "xyz")
	if got := mines(t, b, 0, 10000, 8, api.OK); got == 44 {
		t.Error("a change of the bytes changes nothing")
	}
}

// TestP2DigestStays: a digest that was looked at is as it was.
func TestP2DigestStays(t *testing.T) {
	d := api.Digest{0, 16, 31: 7}
	Zeros(d)
	Good(d, 12)
	if d != (api.Digest{0, 16, 31: 7}) {
		t.Errorf("got %x", d)
	}
}

// TestP4NilAndEmpty: no bytes are no bytes.
func TestP4NilAndEmpty(t *testing.T) {
	for bits := range 13 {
		for _, from := range []int{0, 300, highest} {
			of, err := Mine(nil, from, 50000, bits)
			empty, alsoErr := Mine([]byte{}, from, 50000, bits)
			cut, cutErr := Mine([]byte("abc")[:0], from, 50000, bits)
			if err != nil || alsoErr != nil || cutErr != nil || empty != of || cut != of {
				t.Errorf("from %d, %d bits: nil has %d, empty bytes %d, and those that are cut %d", from, bits, of, empty, cut)
			}
		}
	}
}

// TestP3Numbers: what is told is one of the program's numbers, and of what is well nothing.
func TestP3Numbers(t *testing.T) {
	_, work := Work(41)
	_, next := Next(5, 5, 0)
	_, mine := Mine(nil, 0, 1, -1)
	_, none := Mine(nil, 0, 0, 0)
	for i, told := range []struct {
		err  error
		want api.Errno
	}{{work, api.ErrRange}, {next, api.ErrRange}, {mine, api.ErrRange}, {none, api.ErrNone}} {
		if told.err == nil || plain.Told(told.err) != told.want {
			t.Errorf("error %d: got %v, want %v", i, told.err, told.want)
		}
	}
	_, work = Work(40)
	_, next = Next(5, 5, 1)
	_, mine = Mine(nil, 0, 1, 0)
	for i, err := range []error{work, next, mine} {
		if err != nil {
			t.Errorf("no error %d: got %v", i, err)
		}
	}
}
