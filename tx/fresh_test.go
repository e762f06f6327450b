package tx

import (
	"bytes"
	"testing"

	"moneyer/api"
	"moneyer/plain"
)

// behind: a list with others behind its length, which are none of it.
func behind[T any](list []T, others ...T) []T {
	whole := append(append([]T(nil), list...), others...)
	return whole[:len(list)]
}

// roomy: the same payment, with what is wrong lying behind each of its lists.
func roomy(p api.Tx) api.Tx {
	p = clone(p)
	for i := range p.Ins {
		keys := p.Ins[i].Keys
		for j := range keys {
			keys[j] = behind(keys[j], 1, 2, 3)
		}
		p.Ins[i].Keys = behind(keys, make([]byte, 3001))
	}
	for i := range p.Outs {
		l := p.Outs[i].Lock
		for j := range l {
			l[j].Data = behind(l[j].Data, 1, 2, 3)
		}
		p.Outs[i].Lock = behind(l, op(99))
	}
	p.Ins = behind(p.Ins, from(1, -1))
	p.Outs = behind(p.Outs, pay(-1))
	return p
}

// whole: the same payment, with all that lies behind the length of its lists in them.
func whole(p api.Tx) api.Tx {
	p = api.Tx{Ins: p.Ins[:cap(p.Ins)], Outs: p.Outs[:cap(p.Outs)], Time: p.Time}
	p.Ins = append([]api.In(nil), p.Ins...)
	for i := range p.Ins {
		p.Ins[i].Keys = append([][]byte(nil), p.Ins[i].Keys[:cap(p.Ins[i].Keys)]...)
		for j, k := range p.Ins[i].Keys {
			p.Ins[i].Keys[j] = k[:cap(k)]
		}
	}
	p.Outs = append([]api.Out(nil), p.Outs...)
	for i := range p.Outs {
		p.Outs[i].Lock = append([]api.Op(nil), p.Outs[i].Lock[:cap(p.Outs[i].Lock)]...)
		for j, o := range p.Outs[i].Lock {
			p.Outs[i].Lock[j].Data = o.Data[:cap(o.Data)]
		}
	}
	return p
}

// TestP2WritesNothing: neither into the lists of a payment nor behind their length, which is not read either.
func TestP2WritesNothing(t *testing.T) {
	for name, p := range samples() {
		handed := roomy(p)
		before := clone(whole(handed))
		tells(t, name+", roomy", handed, api.OK)
		if !same(handed, p) || !same(whole(handed), before) {
			t.Errorf("%s: what was handed in is written into", name)
		}
	}
	for _, f := range faults() {
		handed := roomy(with(f.make))
		before := clone(whole(handed))
		tells(t, f.name+", roomy", handed, f.want)
		if !same(handed, with(f.make)) || !same(whole(handed), before) {
			t.Errorf("%s: what was handed in is written into", f.name)
		}
	}
}

func TestP2ReadWritesNothing(t *testing.T) {
	for name, p := range samples() {
		b := otherBytes(p)
		handed := behind(b, 1, 2, 3, 4, 5, 6, 7, 8)
		reads(t, name, handed, p, api.OK)
		if all := handed[:len(b)+8]; !bytes.Equal(all, append(bytes.Clone(b), 1, 2, 3, 4, 5, 6, 7, 8)) {
			t.Errorf("%s: what was handed in is written into", name)
		}
	}
}

// flip changes every byte, those that lie between length and capacity, too.
func flip(b []byte) {
	b = b[:cap(b)]
	for i := range b {
		b[i] ^= 255
	}
}

// texts: all lists of bytes of a payment.
func texts(p api.Tx) [][]byte {
	var all [][]byte
	for _, in := range p.Ins {
		all = append(all, in.Keys...)
	}
	for _, o := range p.Outs {
		for _, op := range o.Lock {
			all = append(all, op.Data)
		}
	}
	return all
}

// TestP2BytesIsFresh: what Bytes tells shares no memory with the payment, or with what it tells another time.
func TestP2BytesIsFresh(t *testing.T) {
	for name, p := range samples() {
		handed := clone(p)
		one, _ := Bytes(handed)
		two, _ := Bytes(handed)
		flip(one)
		if !same(handed, p) || !bytes.Equal(two, otherBytes(p)) {
			t.Errorf("%s: what Bytes tells shares memory", name)
		}
		for _, b := range texts(handed) {
			flip(b)
		}
		if !bytes.Equal(two, otherBytes(p)) {
			t.Errorf("%s: what Bytes tells changes with the payment", name)
		}
	}
}

// TestP2ReadIsFresh: the payment does not change with the bytes, nor they with it.
func TestP2ReadIsFresh(t *testing.T) {
	for name, p := range samples() {
		b := otherBytes(p)
		one, _ := Read(b)
		two, _ := Read(b)
		for _, text := range texts(one) {
			flip(text)
		}
		if !bytes.Equal(b, otherBytes(p)) || !same(two, p) {
			t.Errorf("%s: what Read tells shares memory", name)
		}
		flip(b)
		if !same(two, p) {
			t.Errorf("%s: what Read tells changes with the bytes", name)
		}
	}
}

// TestP2ReadSharesNothing: no list of what Read tells changes with another one, nor with what is appended to it.
func TestP2ReadSharesNothing(t *testing.T) {
	for name, p := range samples() {
		got, _ := Read(otherBytes(p))
		all := texts(got)
		for i, text := range all {
			flip(text)
			for j, other := range all {
				if i != j && !bytes.Equal(other, texts(p)[j]) {
					t.Fatalf("%s: lists %d and %d share memory", name, i, j)
				}
			}
			flip(text)
		}
		for i := range got.Ins {
			_ = append(got.Ins[i].Keys, []byte("one more"))
		}
		for i := range got.Outs {
			_ = append(got.Outs[i].Lock, op(99))
		}
		_ = append(got.Ins, from(9, 9))
		_ = append(got.Outs, pay(9))
		if !same(got, p) {
			t.Errorf("%s: a list changes with what is appended to another one", name)
		}
	}
}

// TestP2KeepsNothing: what is told hangs on what is handed in alone, also behind errors.
func TestP2KeepsNothing(t *testing.T) {
	p := wide(3, 3)
	for range 3 {
		tells(t, "a payment", p, api.OK)
		for _, f := range faults() {
			tells(t, f.name, with(f.make), f.want)
		}
		reads(t, "no bytes", nil, api.Tx{}, api.ErrSyntax)
	}
	p.Ins[0].From.At = 20
	p.Outs[0].Amount = 1
	tells(t, "a payment, behind a change", p, api.OK)
	p.Ins[1].From = p.Ins[0].From
	if err := Check(p); plain.Told(err) != api.ErrTwice {
		t.Errorf("twice, behind a change: got %v", err)
	}
}
