package tx

import (
	"bytes"
	"encoding/hex"
	"math"
	"math/rand"
	"runtime"
	"slices"
	"testing"

	"moneyer/api"
	"moneyer/plain"
)

// known payments, their bytes and their IDs, all written out.
var known = []struct {
	p         api.Tx
	bytes, id string
}{
	{
		api.Tx{Outs: []api.Out{{}}},
		"00" + "01" + "00" + "00" + "00",
		"e5ad5ef45a95d0a6cf4957b266cab6360454b317b662c0dbd36602c252f1fbf0",
	},
	{
		api.Tx{
			Ins:  []api.In{{From: api.Place{At: 2}, Keys: [][]byte{{7}}}},
			Outs: []api.Out{{Amount: 300, Lock: []api.Op{{Op: api.Push, Data: []byte{5}}}}},
			Time: 4,
		},
		"01" + "0000000000000000000000000000000000000000000000000000000000000000" + "02" + "01" + "0107" +
			"01" + "fd012c" + "01" + "01" + "00" + "0105" + "04",
		"531a87f065b9b076a3356589541a1e744d16e182c43babe815303dd52127bbd7",
	},
	{
		api.Tx{
			Ins: []api.In{
				{From: api.Place{Tx: upwards(), At: 39}, Keys: [][]byte{nil, []byte("ab")}},
				{From: api.Place{Tx: api.Digest(bytes.Repeat([]byte{255}, 32))}},
			},
			Outs: []api.Out{
				{Amount: 1 << 50, Lock: []api.Op{{Op: api.After, N: 65536}, {Op: api.Many, N: 2}, {Op: api.Not}}},
				{},
			},
			Time: 1 << 30,
		},
		"02" + "000102030405060708090a0b0c0d0e0f101112131415161718191a1b1c1d1e1f" + "27" + "02" + "00" + "026162" +
			"ffffffffffffffffffffffffffffffffffffffffffffffffffffffffffffffff" + "00" + "00" +
			"02" + "ff0004000000000000" + "03" + "0a" + "fe00010000" + "00" + "09" + "02" + "00" + "0e" + "00" + "00" + "00" + "00" +
			"fe40000000",
		"dd11b431ebd4ab5a68c03fe057538da7ae2ead9a4a88fa69bf443e23ecd0ff92",
	},
}

// upwards: the bytes from 0 on.
func upwards() api.Digest {
	var d api.Digest
	for i := range d {
		d[i] = byte(i)
	}
	return d
}

func TestTX2Known(t *testing.T) {
	for _, k := range known {
		b, err := Bytes(k.p)
		if hex.EncodeToString(b) != k.bytes || err != nil {
			t.Errorf("Bytes: got %x, %v, want %s", b, err, k.bytes)
		}
		want, err := hex.DecodeString(k.bytes)
		if err != nil {
			t.Fatal(err)
		}
		reads(t, "known", want, k.p, api.OK)
	}
}

func TestTX3Known(t *testing.T) {
	for _, k := range known {
		if id, err := ID(k.p); hex.EncodeToString(id[:]) != k.id || err != nil {
			t.Errorf("ID: got %x, %v, want %s", id, err, k.id)
		}
	}
}

// TestTX2Cut: bytes that end too early, at every place, whether the others lie behind them or not.
func TestTX2Cut(t *testing.T) {
	for name, p := range samples() {
		b := otherBytes(p)
		for cut := range b {
			reads(t, name+", cut", b[:cut], api.Tx{}, api.ErrSyntax)
			reads(t, name+", cut, nothing behind", slices.Clip(bytes.Clone(b[:cut])), api.Tx{}, api.ErrSyntax)
		}
	}
	reads(t, "nil", nil, api.Tx{}, api.ErrSyntax)
	reads(t, "no bytes", []byte{}, api.Tx{}, api.ErrSyntax)
}

// TestTX2CutAhead: bytes that begin too late.
func TestTX2CutAhead(t *testing.T) {
	for name, p := range samples() {
		b := otherBytes(p)
		for cut := 1; cut < len(b); cut++ {
			readsAsOther(t, name+", cut ahead", b[cut:])
		}
	}
}

func TestTX2MoreBehind(t *testing.T) {
	for name, p := range samples() {
		b := otherBytes(p)
		for more := range 256 {
			reads(t, name+", with a byte more", append(bytes.Clone(b), byte(more)), api.Tx{}, api.ErrSyntax)
		}
		reads(t, name+", twice", slices.Repeat(b, 2), api.Tx{}, api.ErrSyntax)
		reads(t, name+", with many more", append(bytes.Clone(b), make([]byte, 1000)...), api.Tx{}, api.ErrSyntax)
		reads(t, name+", with a byte ahead", append([]byte{0}, b...), api.Tx{}, api.ErrSyntax)
	}
}

// TestTX2LongerNumber: each number of each payment, written in more bytes than Write has it in.
func TestTX2LongerNumber(t *testing.T) {
	for name, p := range samples() {
		ps := otherParts(p)
		for i, number := range ps {
			if !number.isNumber {
				continue
			}
			for _, width := range widths {
				if width <= least(number.n) {
					continue
				}
				longer := slices.Clone(ps)
				longer[i] = part{raw: otherNumber(number.n, width)}
				reads(t, name+", a longer number", join(longer), api.Tx{}, api.ErrSyntax)
			}
		}
	}
}

// TestTX2NoNumber: in the place of each number what is above all ints.
func TestTX2NoNumber(t *testing.T) {
	for name, p := range samples() {
		ps := otherParts(p)
		for i, number := range ps {
			if !number.isNumber {
				continue
			}
			for _, wrong := range []int{math.MinInt, math.MinInt + number.n, -1, -1 - number.n} {
				changed := slices.Clone(ps)
				changed[i] = part{raw: otherNumber(wrong, 8)}
				reads(t, name+", no number", join(changed), api.Tx{}, api.ErrSyntax)
			}
		}
	}
}

// TestTX2Counts: each count says more, or less, than is there.
func TestTX2Counts(t *testing.T) {
	for name, p := range samples() {
		ps := otherParts(p)
		for i, c := range ps {
			if !c.isCount {
				continue
			}
			for _, n := range []int{1 << 16, 1 << 31, 1 << 32, math.MaxInt - 1, math.MaxInt} {
				more := slices.Clone(ps)
				more[i].n = n
				reads(t, name+", a count that says far more", join(more), api.Tx{}, api.ErrSyntax)
			}
			// With a count that is near, what stands behind it may be a payment still.
			for _, n := range []int{c.n - 1, c.n + 1, c.n + 2, c.n + 41} {
				near := slices.Clone(ps)
				near[i].n = max(n, 0)
				readsAsOther(t, name+", a count that says more or less", join(near))
			}
		}
	}
}

// TestTX2NoLongLists: of bytes with far more keys, ops, ins or outs than may be, no list of all of them is made.
func TestTX2NoLongLists(t *testing.T) {
	const far = 1 << 18
	whole := map[string][]part{
		"ins":  {count(far)},
		"keys": {count(1), {raw: make([]byte, 32)}, {isNumber: true}, count(far)},
		"outs": {count(0), count(far)},
		"ops":  {count(0), count(1), {isNumber: true}, count(far)},
	}
	for name, ps := range whole {
		b := append(join(ps), make([]byte, 40*far)...)
		var before, behind runtime.MemStats
		runtime.ReadMemStats(&before)
		got, err := Read(b)
		runtime.ReadMemStats(&behind)
		if !same(got, api.Tx{}) || plain.Told(err) != api.ErrSyntax {
			t.Errorf("%s: got %v, want ErrSyntax alone", name, err)
		}
		if made := behind.TotalAlloc - before.TotalAlloc; made > 1<<20 {
			t.Errorf("%s: Read takes %d bytes of memory", name, made)
		}
	}
}

// TestTX2Changed: each byte of each payment changed, in several ways.
func TestTX2Changed(t *testing.T) {
	taken := 0
	for name, p := range samples() {
		b := otherBytes(p)
		if testing.Short() && len(b) > 1000 {
			continue
		}
		for at := range b {
			for _, change := range []byte{1, 4, 255} {
				changed := bytes.Clone(b)
				changed[at] ^= change
				if readsAsOther(t, name+", a byte changed", changed) == api.OK {
					taken++
				}
			}
		}
	}
	if taken == 0 {
		t.Errorf("no payment with a byte changed is one: the changes are no good")
	}
}

// TestTX2NoPayment: what would be the bytes of a payment that Check refuses.
func TestTX2NoPayment(t *testing.T) {
	for _, f := range faults() {
		b := otherBytes(with(f.make))
		if got, err := Read(b); !same(got, api.Tx{}) || plain.Told(err) != api.ErrSyntax {
			t.Errorf("%s: got %s, %v, want ErrSyntax alone", f.name, brief(got), err)
		}
	}
}

// TestTX3WhateverTheKeys: an ID is the same with all kinds of keys, and with none.
func TestTX3WhateverTheKeys(t *testing.T) {
	kinds := [][][]byte{nil, {}, {nil}, {{}}, {{0}}, {{1}, {2}}, make([][]byte, 30), {fill(3000)}, slices.Repeat([][]byte{fill(253)}, 30)}
	for name, p := range samples() {
		want, err := ID(p)
		if err != nil {
			t.Fatal(err)
		}
		for i := range p.Ins {
			for _, keys := range kinds {
				changed := clone(p)
				changed.Ins[i].Keys = keys
				if got, err := ID(changed); got != want || err != nil {
					t.Errorf("%s: with other keys of in %d: got %x, %v, want %x", name, i, got, err, want)
				}
				for j := range changed.Ins {
					changed.Ins[j].Keys = keys
				}
				if got, err := ID(changed); got != want || err != nil {
					t.Errorf("%s: with other keys of all ins: got %x, %v, want %x", name, got, err, want)
				}
			}
		}
	}
}

// TestTX3WrongKeys: keys with which Check tells an error have no ID.
func TestTX3WrongKeys(t *testing.T) {
	for _, keys := range [][][]byte{make([][]byte, 31), {fill(3001)}, {nil, fill(3001)}} {
		p := with(func(p *api.Tx) { p.Ins[2].Keys = keys })
		if got, err := ID(p); got != (api.Digest{}) || plain.Told(err) != api.ErrFull {
			t.Errorf("got %x, %v, want ErrFull alone", got, err)
		}
	}
}

// TestTX3Otherwise: whatever but the keys is changed, the ID is another one.
func TestTX3Otherwise(t *testing.T) {
	base := with(func(p *api.Tx) {})
	changes := map[string]func(p *api.Tx){
		"base":             func(p *api.Tx) {},
		"Time":             func(p *api.Tx) { p.Time++ },
		"Tx, first byte":   func(p *api.Tx) { p.Ins[0].From.Tx[0] ^= 64 },
		"Tx, last byte":    func(p *api.Tx) { p.Ins[2].From.Tx[31] ^= 1 },
		"At":               func(p *api.Tx) { p.Ins[1].From.At = 30 },
		"an in less":       func(p *api.Tx) { p.Ins = p.Ins[:2] },
		"no ins":           func(p *api.Tx) { p.Ins = nil },
		"ins turned round": func(p *api.Tx) { slices.Reverse(p.Ins) },
		"outs turned round": func(p *api.Tx) {
			slices.Reverse(p.Outs)
		},
		"an out less": func(p *api.Tx) { p.Outs = p.Outs[:2] },
		"Amount":      func(p *api.Tx) { p.Outs[1].Amount++ },
		"Op":          func(p *api.Tx) { p.Outs[0].Lock = []api.Op{op(api.Dup)} },
		"no ops":      func(p *api.Tx) { p.Outs[0].Lock = nil },
		"N":           func(p *api.Tx) { p.Outs[0].Lock = []api.Op{many(1)} },
		"another N":   func(p *api.Tx) { p.Outs[0].Lock = []api.Op{many(2)} },
		"Data":        func(p *api.Tx) { p.Outs[0].Lock = []api.Op{push(0, 0)} },
		"empty Data":  func(p *api.Tx) { p.Outs[0].Lock = []api.Op{push()} },
	}
	ahead := map[api.Digest]string{}
	for name, change := range changes {
		p := clone(base)
		change(&p)
		id, err := ID(p)
		if err != nil || id != otherID(p) {
			t.Errorf("%s: got %x, %v, want %x", name, id, err, otherID(p))
		}
		if other, isThere := ahead[id]; isThere {
			t.Errorf("%s and %s have the same ID", name, other)
		}
		ahead[id] = name
	}
}

// drawn: a payment drawn by lot, with which something may be wrong; below tells a number that is below another one.
func drawn(below func(int) int) api.Tx {
	odd := func(ordinary int, wrong ...int) int {
		if below(60) == 0 {
			return wrong[below(len(wrong))]
		}
		return ordinary
	}
	number := func() int { return edges[below(len(edges))] }
	p := api.Tx{Time: odd(min(number(), api.MaxHeight), -1, api.MaxHeight+1, math.MaxInt)}
	for range odd(below(6), 40, 41) {
		in := from(byte(below(9)), odd(below(40), -1, 40, 300))
		for range odd(below(4), 30, 31) {
			in.Keys = append(in.Keys, fill(odd(below(300), 3000, 3001)))
		}
		p.Ins = append(p.Ins, in)
	}
	for range odd(1+below(5), 0, 40, 41) {
		o := pay(odd(number(), -1, api.MaxMoney, api.MaxMoney+1))
		for range odd(below(6), 60, 61) {
			ops := []api.Op{op(api.Dup), op(api.Hash), push(fill(odd(below(300), 300, 301))...), many(1 + below(9)), after(below(70000))}
			o.Lock = append(o.Lock, ops[below(len(ops))])
		}
		if below(60) == 0 {
			o.Lock = append(o.Lock, api.Op{Op: below(20), N: below(12)})
		}
		p.Outs = append(p.Outs, o)
	}
	return p
}

// TestTX123Drawn: payments drawn by lot, always the same ones, and their bytes with a change.
func TestTX123Drawn(t *testing.T) {
	lot := rand.New(rand.NewSource(7))
	rounds := 6000
	if testing.Short() {
		rounds = 1000
	}
	told := map[api.Errno]int{}
	for range rounds {
		p := drawn(lot.Intn)
		want := otherCheck(p)
		tells(t, "drawn", p, want)
		told[want]++
		b := otherBytes(p)
		b[lot.Intn(len(b))] = byte(lot.Intn(256))
		readsAsOther(t, "drawn, a byte changed", b)
		if t.Failed() {
			t.Fatalf("%s", brief(p))
		}
	}
	for _, e := range []api.Errno{api.OK, api.ErrSyntax, api.ErrRange, api.ErrFull, api.ErrNone, api.ErrTwice} {
		if told[e] < rounds/400 {
			t.Errorf("%v is told only %d times: the lot is no good", e, told[e])
		}
	}
}

// FuzzRead: what is read has just these bytes, and nothing else is read.
func FuzzRead(f *testing.F) {
	for _, p := range samples() {
		f.Add(otherBytes(p))
	}
	for _, x := range faults() {
		f.Add(otherBytes(with(x.make)))
	}
	f.Fuzz(func(t *testing.T, b []byte) {
		before := bytes.Clone(b)
		wrong := readsAsOther(t, "Read", b)
		if !bytes.Equal(b, before) {
			t.Errorf("what was handed in is written into")
		}
		if wrong == api.OK {
			p, _ := Read(b)
			tells(t, "what was read", p, api.OK)
		}
	})
}

// FuzzPayment: payments drawn by the bytes.
func FuzzPayment(f *testing.F) {
	f.Add([]byte(nil))
	f.Add(fill(50))
	f.Add(bytes.Repeat([]byte{1, 2, 3, 0, 59}, 100))
	f.Fuzz(func(t *testing.T, lot []byte) {
		p := drawn(func(n int) int {
			if len(lot) == 0 {
				return n - 1
			}
			x := int(lot[0])
			lot = lot[1:]
			return x % n
		})
		tells(t, "drawn", p, otherCheck(p))
	})
}
