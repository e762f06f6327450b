package spend

import (
	"bytes"
	"math/rand"
	"slices"
	"testing"

	"moneyer/api"
	"moneyer/sha"
	"moneyer/tx"
)

// draw is a list that is drawn by lot; below tells a number that is below another one.
type draw struct {
	below func(int) int
	// opens has what opens the lock of a place, which hangs on the payment's ID.
	opens map[api.Place]func(id api.Digest) [][]byte
}

// odd: something ordinary, or seldom something else.
func (d *draw) odd(ordinary int, others ...int) int {
	if d.below(60) == 0 {
		return others[d.below(len(others))]
	}
	return ordinary
}

// lock: one of several kinds, and what opens it.
func (d *draw) lock() ([]api.Op, func(id api.Digest) [][]byte) {
	n := byte(d.below(256))
	switch d.odd(d.below(6), 6, 7) {
	case 0:
		return ops(push(n), api.Equal), hand([]byte{n})
	case 1:
		return nil, hand([]byte{n | 1})
	case 2:
		digest := sha.Sum([]byte{n})
		return ops(api.Hash, push(digest[:]...), api.Equal), hand([]byte{n})
	case 3:
		return ops(after(int(n)%60), api.Swap, api.Not, api.Must), hand([]byte{}, []byte{n | 1})
	case 4:
		return ops(api.If, push(n), api.Else, after(int(n)), api.End, api.Equal), hand([]byte{n}, []byte{1})
	case 5:
		if n > 40 {
			return ops(api.Not), hand(nil)
		}
		return ops(push(public(n%2)...), api.Signed), signed(n % 2)
	case 6:
		return ops(d.below(20)), hand([]byte{1})
	}
	return ops(push()), hand()
}

// payment: one of what is there, with which something may be wrong.
func (d *draw) payment(cs []api.Coin, height int) api.Tx {
	p := api.Tx{Time: d.odd(d.below(max(height, 0)%1000+1), height+1, height+2, -1)}
	had := 0
	for range d.odd(d.below(4), 5, 40, 41) {
		from := place(byte(d.below(256)), d.odd(d.below(40), 40))
		if len(cs) > 0 && d.below(60) > 0 {
			c := cs[d.below(len(cs))]
			from = c.Place
			had += c.Out.Amount
		}
		isTwice := slices.ContainsFunc(p.Ins, func(in api.In) bool { return in.From == from })
		if !isTwice || d.below(40) == 0 {
			p.Ins = append(p.Ins, api.In{From: from})
		}
	}
	var keys []func(id api.Digest) [][]byte
	for range d.odd(1+d.below(3), 0, 40, 41) {
		n := d.below(max(had/3, 20))
		if len(p.Ins) > 0 {
			n = min(n, had/3)
		}
		l, key := d.lock()
		p.Outs = append(p.Outs, out(d.odd(n, had, had+1, -1, api.MaxMoney-n, api.MaxMoney), l...))
		keys = append(keys, key)
	}
	d.open(&p, keys)
	return p
}

// open gives a payment its keys, and remembers those to what it pays.
func (d *draw) open(p *api.Tx, keys []func(id api.Digest) [][]byte) {
	if tx.Check(*p) != nil {
		return
	}
	own := at(*p, 0).Tx
	for i, key := range keys {
		d.opens[api.Place{Tx: own, At: i}] = key
	}
	for i, in := range p.Ins {
		key := d.opens[in.From]
		if key == nil {
			continue
		}
		id := own
		id[0] ^= byte(d.odd(0, 1))
		p.Ins[i].Keys = key(id)
		switch d.odd(0, 1, 2, 3) {
		case 1:
			p.Ins[i].Keys = nil
		case 2:
			p.Ins[i].Keys = append(p.Ins[i].Keys, []byte{1})
		case 3:
			slices.Reverse(p.Ins[i].Keys)
		}
	}
}

// holds: lists drawn by lot are done to a set, one behind the other, or not.
func (d *draw) holds(t *testing.T, rounds int, told map[api.Errno]int) {
	d.opens = map[api.Place]func(id api.Digest) [][]byte{}
	var cs []api.Coin
	var before []api.Tx
	for range rounds {
		height := d.odd(d.below(100), -1, 1<<30, 1<<30+1, 0)
		var ts []api.Tx
		now := cs
		for range d.odd(1+d.below(6), 0, 12) {
			p := d.payment(now, height)
			if len(before) > 0 && d.below(60) == 0 {
				p = before[d.below(len(before))] // once more
			}
			ts = append(ts, p)
			if next := otherAll(now, []api.Tx{p}, height); next.wrong == api.OK {
				now = next.set
			}
		}
		want := otherAll(cs, ts, height).wrong
		told[want]++
		got := pays(t, "drawn", cs, ts, height, want)
		for _, p := range ts {
			checks(t, "drawn, each one by itself", cs, p, height, otherAll(cs, []api.Tx{p}, height).wrong)
		}
		if t.Failed() {
			t.Fatalf("%s, %.600s, %d", brief(cs), paymentsText(ts), height)
		}
		if want == api.OK {
			cs, before = got.set, append(before, ts...)
		}
	}
}

// TestSP12Drawn: lists drawn by lot, always the same ones.
func TestSP12Drawn(t *testing.T) {
	lot := rand.New(rand.NewSource(9))
	times := 6
	if testing.Short() {
		times = 2
	}
	told := map[api.Errno]int{}
	for range times {
		d := &draw{below: lot.Intn}
		d.holds(t, 100, told)
	}
	for _, e := range []api.Errno{api.OK, api.ErrSyntax, api.ErrRange, api.ErrFull, api.ErrNone, api.ErrTwice, api.ErrLock, api.ErrEarly, api.ErrMoney} {
		if told[e] < times {
			t.Errorf("%v is told only %d times: the lot is no good", e, told[e])
		}
	}
}

// FuzzDrawn: lists drawn by the bytes.
func FuzzDrawn(f *testing.F) {
	f.Add([]byte(nil))
	f.Add([]byte{1, 2, 3, 4, 5, 6, 7, 8, 9, 10, 11, 12, 13, 14, 15, 16, 17, 18, 19, 20})
	f.Add(bytes.Repeat([]byte{7, 11, 3, 250, 39}, 60))
	f.Fuzz(func(t *testing.T, lot []byte) {
		d := &draw{below: func(n int) int {
			if len(lot) == 0 {
				return n - 1
			}
			x := int(lot[0])
			lot = lot[1:]
			return x % n
		}}
		d.holds(t, min(1+len(lot)/60, 20), map[api.Errno]int{})
	})
}
