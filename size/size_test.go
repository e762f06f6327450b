package size

import (
	"bytes"
	"math"
	"testing"

	"moneyer/api"
	"moneyer/plain"
)

// written has numbers on both sides of every edge that SZ1 names, and their bytes.
var written = []struct {
	n int
	b []byte
}{
	{0, []byte{0}},
	{1, []byte{1}},
	{252, []byte{252}},
	{253, []byte{253, 0, 253}},
	{254, []byte{253, 0, 254}},
	{255, []byte{253, 0, 255}},
	{256, []byte{253, 1, 0}},
	{300, []byte{253, 1, 44}},
	{65535, []byte{253, 255, 255}},
	{65536, []byte{254, 0, 1, 0, 0}},
	{0x01020304, []byte{254, 1, 2, 3, 4}},
	{math.MaxUint32, []byte{254, 255, 255, 255, 255}},
	{math.MaxUint32 + 1, []byte{255, 0, 0, 0, 1, 0, 0, 0, 0}},
	{0x0102030405060708, []byte{255, 1, 2, 3, 4, 5, 6, 7, 8}},
	{math.MaxInt64, []byte{255, 127, 255, 255, 255, 255, 255, 255, 255}},
}

// unreadable has what neither Read nor Unpack takes, and why.
var unreadable = []struct {
	name string
	b    []byte
	at   int
	want api.Errno
}{
	{"below 0", []byte{5}, -1, api.ErrRange},
	{"far below 0", []byte{5}, math.MinInt, api.ErrRange},
	{"below 0 comes ahead of too few", nil, -1, api.ErrRange},
	{"below 0 comes ahead of too long", []byte{253, 0, 1}, -1, api.ErrRange},
	{"nil", nil, 0, api.ErrLength},
	{"empty", []byte{}, 0, api.ErrLength},
	{"at the end", []byte{5}, 1, api.ErrLength},
	{"behind the end", []byte{5}, 2, api.ErrLength},
	{"far behind the end", []byte{5}, math.MaxInt, api.ErrLength},
	{"none of two", []byte{253}, 0, api.ErrLength},
	{"one of two", []byte{253, 1}, 0, api.ErrLength},
	{"one of two comes ahead of too long", []byte{253, 0}, 0, api.ErrLength},
	{"one of two, at a place", []byte{1, 1, 253, 1}, 2, api.ErrLength},
	{"three of four", []byte{254, 0, 0, 0}, 0, api.ErrLength},
	{"seven of eight", []byte{255, 255, 0, 0, 0, 0, 0, 0}, 0, api.ErrLength},
	{"0 in two", []byte{253, 0, 0}, 0, api.ErrSyntax},
	{"252 in two", []byte{253, 0, 252}, 0, api.ErrSyntax},
	{"252 in two, at a place", []byte{7, 253, 0, 252, 7}, 1, api.ErrSyntax},
	{"0 in four", []byte{254, 0, 0, 0, 0}, 0, api.ErrSyntax},
	{"65535 in four", []byte{254, 0, 0, 255, 255}, 0, api.ErrSyntax},
	{"0 in eight", []byte{255, 0, 0, 0, 0, 0, 0, 0, 0}, 0, api.ErrSyntax},
	{"2^32 - 1 in eight", []byte{255, 0, 0, 0, 0, 255, 255, 255, 255}, 0, api.ErrSyntax},
	{"2^63", []byte{255, 128, 0, 0, 0, 0, 0, 0, 0}, 0, api.ErrSyntax},
	{"2^64 - 1", []byte{255, 255, 255, 255, 255, 255, 255, 255, 255}, 0, api.ErrSyntax},
}

// fill tells so many bytes, not all of them the same.
func fill(n int) []byte {
	b := make([]byte, n)
	for i := range b {
		b[i] = byte(i*7 + 3)
	}
	return b
}

// flip changes every byte, those that lie between length and capacity, too.
func flip(b []byte) {
	b = b[:cap(b)]
	for i := range b {
		b[i] ^= 255
	}
}

func TestSZ1Write(t *testing.T) {
	for _, c := range written {
		got, err := Write(c.n)
		if err != nil || !bytes.Equal(got, c.b) {
			t.Errorf("Write(%d): got %v, %v, want %v", c.n, got, err, c.b)
		}
	}
}

func TestSZ1WriteBelowZero(t *testing.T) {
	for _, n := range []int{-1, -253, math.MinInt} {
		got, err := Write(n)
		if len(got) != 0 || plain.Told(err) != api.ErrRange {
			t.Errorf("Write(%d): got %v, %v, want ErrRange alone", n, got, err)
		}
	}
}

func TestSZ1Read(t *testing.T) {
	for _, c := range written {
		for _, ahead := range []int{0, 1, 12} {
			for _, after := range []int{0, 1, 12} {
				b := append(append(fill(ahead), c.b...), fill(after)...)
				n, next, err := Read(b, ahead)
				if n != c.n || next != ahead+len(c.b) || err != nil {
					t.Errorf("Read(%v, %d): got %d, %d, %v, want %d, %d", b, ahead, n, next, err, c.n, ahead+len(c.b))
				}
			}
		}
	}
}

func TestSZ1ReadWrong(t *testing.T) {
	for _, c := range unreadable {
		n, next, err := Read(c.b, c.at)
		if n != 0 || next != 0 || plain.Told(err) != c.want {
			t.Errorf("%s: Read(%v, %d): got %d, %d, %v, want %v alone", c.name, c.b, c.at, n, next, err, c.want)
		}
	}
}

// Every cut of what Write tells is too short, whatever its first bytes are.
func TestSZ1ReadCut(t *testing.T) {
	for _, c := range written {
		for cut := range c.b {
			// The bytes behind the cut are in memory still, and are not to be read.
			if n, next, err := Read(c.b[:cut], 0); n != 0 || next != 0 || plain.Told(err) != api.ErrLength {
				t.Errorf("Read(%v, 0): got %d, %d, %v, want ErrLength alone", c.b[:cut], n, next, err)
			}
		}
	}
}

// All numbers of two bytes: from 253 on they are read, those below stand in one.
func TestSZ1ReadTwoBytes(t *testing.T) {
	for want := range 65536 {
		n, next, err := Read([]byte{253, byte(want >> 8), byte(want)}, 0)
		if want < 253 && (n != 0 || next != 0 || plain.Told(err) != api.ErrSyntax) {
			t.Fatalf("%d in two bytes: got %d, %d, %v, want ErrSyntax alone", want, n, next, err)
		}
		if want >= 253 && (n != want || next != 3 || err != nil) {
			t.Fatalf("%d in two bytes: got %d, %d, %v", want, n, next, err)
		}
	}
}

func TestSZ2Pack(t *testing.T) {
	heads := []struct {
		n    int
		head []byte
	}{
		{0, []byte{0}},
		{1, []byte{1}},
		{252, []byte{252}},
		{253, []byte{253, 0, 253}},
		{65535, []byte{253, 255, 255}},
		{65536, []byte{254, 0, 1, 0, 0}},
	}
	for _, c := range heads {
		b := fill(c.n)
		want := append(bytes.Clone(c.head), b...)
		if got := Pack(b); !bytes.Equal(got, want) {
			t.Errorf("Pack of %d bytes: it is not %v and they", c.n, c.head)
		}
	}
	if got := Pack(nil); !bytes.Equal(got, []byte{0}) {
		t.Errorf("Pack(nil): got %v, want [0]", got)
	}
}

func TestSZ2Unpack(t *testing.T) {
	for _, n := range []int{0, 1, 2, 252, 253, 65535, 65536} {
		for _, ahead := range []int{0, 1, 12} {
			for _, after := range []int{0, 1, 12} {
				want := fill(n)
				b := append(append(fill(ahead), Pack(want)...), fill(after)...)
				got, next, err := Unpack(b, ahead)
				if !bytes.Equal(got, want) || next != len(b)-after || err != nil {
					t.Errorf("Unpack of %d bytes, %d ahead, %d after: got %d bytes, %d, %v", n, ahead, after, len(got), next, err)
				}
			}
		}
	}
}

func TestSZ2UnpackReadsErrors(t *testing.T) {
	for _, c := range unreadable {
		got, next, err := Unpack(c.b, c.at)
		if len(got) != 0 || next != 0 || plain.Told(err) != c.want {
			t.Errorf("%s: Unpack(%v, %d): got %v, %d, %v, want %v alone", c.name, c.b, c.at, got, next, err, c.want)
		}
	}
}

func TestSZ2UnpackTooFew(t *testing.T) {
	cases := []struct {
		b  []byte
		at int
	}{
		{[]byte{1}, 0},
		{[]byte{2, 7}, 0},
		{[]byte{9, 9, 2, 7}, 2},
		{append([]byte{253, 0, 253}, fill(252)...), 0},
		{[]byte{254, 255, 255, 255, 255, 1}, 0},
		{[]byte{255, 127, 255, 255, 255, 255, 255, 255, 255}, 0},
		{[]byte{0, 255, 127, 255, 255, 255, 255, 255, 255, 255, 1, 2}, 1},
		{[]byte{2, 7, 8}[:2], 0}, // the third byte lies behind the length
	}
	for _, c := range cases {
		got, next, err := Unpack(c.b, c.at)
		if len(got) != 0 || next != 0 || plain.Told(err) != api.ErrLength {
			t.Errorf("Unpack(%v, %d): got %v, %d, %v, want ErrLength alone", c.b, c.at, got, next, err)
		}
	}
}

func TestP2WriteIsFresh(t *testing.T) {
	for _, c := range written {
		one, _ := Write(c.n)
		two, _ := Write(c.n)
		flip(one)
		if three, _ := Write(c.n); !bytes.Equal(two, c.b) || !bytes.Equal(three, c.b) {
			t.Errorf("Write(%d): answers share memory", c.n)
		}
	}
}

func TestP2PackIsFresh(t *testing.T) {
	for _, n := range []int{0, 1, 8, 300} {
		whole := fill(n + 20)
		packed := Pack(whole[:n])
		if !bytes.Equal(whole, fill(n+20)) {
			t.Errorf("Pack of %d bytes: what was handed in is written into", n)
		}
		flip(packed)
		if !bytes.Equal(whole, fill(n+20)) {
			t.Errorf("Pack of %d bytes: the answer shares memory with what was handed in", n)
		}
	}
}

func TestP2UnpackIsFresh(t *testing.T) {
	for _, n := range []int{0, 1, 8, 300} {
		b := append(Pack(fill(n)), fill(20)...)
		before := bytes.Clone(b)
		one, _, _ := Unpack(b, 0)
		two, _, _ := Unpack(b, 0)
		flip(one)
		if !bytes.Equal(b, before) || !bytes.Equal(two, fill(n)) {
			t.Errorf("Unpack of %d bytes: the answer shares memory", n)
		}
	}
}

// What Read takes is what Write tells, to the byte; and Unpack takes what Pack tells.
func FuzzReadWrite(f *testing.F) {
	for _, c := range written {
		f.Add(c.b, 0)
	}
	for _, c := range unreadable {
		f.Add(c.b, c.at)
	}
	f.Fuzz(func(t *testing.T, b []byte, at int) {
		before := bytes.Clone(b)
		if n, next, err := Read(b, at); err == nil {
			if again, _ := Write(n); !bytes.Equal(again, b[at:next]) {
				t.Errorf("Read took %v, Write tells %v", b[at:next], again)
			}
		}
		if got, next, err := Unpack(b, at); err == nil {
			if again := Pack(got); !bytes.Equal(again, b[at:next]) {
				t.Errorf("Unpack took %v, Pack tells %v", b[at:next], again)
			}
		}
		if !bytes.Equal(b, before) {
			t.Errorf("what was handed in is written into")
		}
	})
}

// TestWithin: from 0 to the most, both of them too, and nothing on either side; nothing is from 0 to a most below 0.
func TestWithin(t *testing.T) {
	for _, most := range []int{0, 1, 39, 40, 1 << 30, math.MaxInt - 1, math.MaxInt} {
		for _, n := range []int{0, most / 2, max(most-1, 0), most} {
			if !Within(n, most) {
				t.Errorf("Within(%d, %d): got false", n, most)
			}
		}
		for _, n := range []int{-1, -2, -most - 1, math.MinInt32, math.MinInt} {
			if Within(n, most) {
				t.Errorf("Within(%d, %d): got true", n, most)
			}
		}
		if most < math.MaxInt && (Within(most+1, most) || Within(math.MaxInt, most)) {
			t.Errorf("Within tells true of more than %d", most)
		}
	}
	for _, n := range []int{-2, -1, 0, 1, math.MinInt, math.MaxInt} {
		if Within(n, -1) || Within(n, math.MinInt) {
			t.Errorf("Within tells true of %d, which is not from 0 to a number below 0", n)
		}
	}
}
