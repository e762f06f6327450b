package tx

import (
	"bytes"
	"crypto/sha256"
	"encoding/binary"
	"math"
	"slices"

	"moneyer/api"
	"moneyer/lock"
	"moneyer/plain"
)

// This file has what the four calls are to tell, in other words: all that may be wrong as a list in the chapter's order, bytes as parts that are joined, and a reading that takes what it can and is held against what would be written.

// otherCheck: the first of all that may be wrong.
func otherCheck(t api.Tx) api.Errno {
	type wrong struct {
		is   bool
		what api.Errno
	}
	all := []wrong{
		{len(t.Ins) >= 41, api.ErrFull},
		{len(t.Outs) >= 41, api.ErrFull},
		{len(t.Outs) <= 0, api.ErrNone},
		{t.Time <= -1 || t.Time >= 1<<30+1, api.ErrRange},
	}
	for i, in := range t.Ins {
		all = append(all, wrong{in.From.At <= -1 || in.From.At >= 40, api.ErrRange})
		for _, ahead := range t.Ins[:i] {
			isSame := bytes.Equal(ahead.From.Tx[:], in.From.Tx[:]) && ahead.From.At == in.From.At
			all = append(all, wrong{isSame, api.ErrTwice})
		}
		all = append(all, wrong{len(in.Keys) >= 31, api.ErrFull})
		for _, k := range in.Keys {
			all = append(all, wrong{len(k) >= 3001, api.ErrFull})
		}
	}
	for _, o := range t.Outs {
		all = append(all, wrong{o.Amount <= -1 || o.Amount >= 1<<50+1, api.ErrRange})
		told := plain.Told(lock.Check(o.Lock))
		all = append(all, wrong{told != api.OK, told})
	}
	for _, w := range all {
		if w.is {
			return w.what
		}
	}
	return api.OK
}

// part of a payment's bytes: a number, or bytes as they are.
type part struct {
	isNumber bool
	isCount  bool // of what stands behind it
	n        int
	raw      []byte
}

func numbers(ns ...int) []part {
	var ps []part
	for _, n := range ns {
		ps = append(ps, part{isNumber: true, n: n})
	}
	return ps
}

func count(n int) part { return part{isNumber: true, isCount: true, n: n} }

func otherPacked(b []byte) []part { return []part{count(len(b)), {raw: b}} }

// otherParts: what a payment's bytes are made of, whatever is wrong with it.
func otherParts(t api.Tx) []part {
	ps := []part{count(len(t.Ins))}
	for _, in := range t.Ins {
		ps = append(ps, part{raw: bytes.Clone(in.From.Tx[:])})
		ps = append(ps, numbers(in.From.At)...)
		ps = append(ps, count(len(in.Keys)))
		for _, k := range in.Keys {
			ps = append(ps, otherPacked(k)...)
		}
	}
	ps = append(ps, count(len(t.Outs)))
	for _, o := range t.Outs {
		ps = append(ps, numbers(o.Amount)...)
		ps = append(ps, count(len(o.Lock)))
		for _, op := range o.Lock {
			ps = append(ps, numbers(op.Op, op.N)...)
			ps = append(ps, otherPacked(op.Data)...)
		}
	}
	return append(ps, numbers(t.Time)...)
}

// widths of a number, in bytes behind its first one.
var widths = []int{0, 2, 4, 8}

// least: the fewest bytes behind its first one with which a number is written.
func least(n int) int {
	switch {
	case n >= 0 && n <= 252:
		return 0
	case n >= 0 && n <= 65535:
		return 2
	case n >= 0 && n <= 4294967295:
		return 4
	}
	return 8
}

// otherNumber: a number with so many bytes behind its first one.
func otherNumber(n, width int) []byte {
	switch width {
	case 0:
		return []byte{byte(n)}
	case 2:
		return binary.BigEndian.AppendUint16([]byte{253}, uint16(n))
	case 4:
		return binary.BigEndian.AppendUint32([]byte{254}, uint32(n))
	}
	return binary.BigEndian.AppendUint64([]byte{255}, uint64(n))
}

// join: parts, one behind the other.
func join(ps []part) []byte {
	var b []byte
	for _, p := range ps {
		if p.isNumber {
			b = append(b, otherNumber(p.n, least(p.n))...)
		} else {
			b = append(b, p.raw...)
		}
	}
	return b
}

// otherBytes: a payment's bytes, whatever is wrong with it.
func otherBytes(t api.Tx) []byte { return join(otherParts(t)) }

func otherID(t api.Tx) api.Digest {
	t.Ins = slices.Clone(t.Ins)
	for i := range t.Ins {
		t.Ins[i].Keys = nil
	}
	return sha256.Sum256(append([]byte{21}, otherBytes(t)...))
}

// taker takes from bytes what it can, and 0 where there is nothing left.
type taker struct{ left []byte }

func (k *taker) bytes(n int) []byte {
	b := make([]byte, min(max(n, 0), 5000))
	copy(b, k.left)
	k.left = k.left[min(len(b), len(k.left)):]
	return b
}

func (k *taker) number() int {
	first := k.bytes(1)[0]
	switch first {
	case 253:
		return int(binary.BigEndian.Uint16(k.bytes(2)))
	case 254:
		return int(binary.BigEndian.Uint32(k.bytes(4)))
	case 255:
		return int(binary.BigEndian.Uint64(k.bytes(8)))
	}
	return int(first)
}

// some: so many, but never more than are enough to be too many.
func (k *taker) some() int { return min(max(k.number(), 0), 100) }

// otherRead: what can be taken is the payment, if it is one, and these are just its bytes.
func otherRead(b []byte) (api.Tx, api.Errno) {
	k := &taker{b}
	t := api.Tx{Ins: make([]api.In, k.some())}
	for i := range t.Ins {
		t.Ins[i].From.Tx = api.Digest(k.bytes(32))
		t.Ins[i].From.At = k.number()
		t.Ins[i].Keys = make([][]byte, k.some())
		for j := range t.Ins[i].Keys {
			t.Ins[i].Keys[j] = k.bytes(k.number())
		}
	}
	t.Outs = make([]api.Out, k.some())
	for i := range t.Outs {
		t.Outs[i].Amount = k.number()
		t.Outs[i].Lock = make([]api.Op, k.some())
		for j := range t.Outs[i].Lock {
			t.Outs[i].Lock[j] = api.Op{Op: k.number(), N: k.number()}
			t.Outs[i].Lock[j].Data = k.bytes(k.number())
		}
	}
	t.Time = k.number()
	if otherCheck(t) != api.OK || !bytes.Equal(otherBytes(t), b) {
		return api.Tx{}, api.ErrSyntax
	}
	return t, api.OK
}

// same: two payments have the same, an empty list and nil being the same.
func same(a, b api.Tx) bool {
	sameIn := func(a, b api.In) bool {
		return a.From == b.From && slices.EqualFunc(a.Keys, b.Keys, bytes.Equal)
	}
	sameOp := func(a, b api.Op) bool {
		return a.Op == b.Op && a.N == b.N && bytes.Equal(a.Data, b.Data)
	}
	sameOut := func(a, b api.Out) bool {
		return a.Amount == b.Amount && slices.EqualFunc(a.Lock, b.Lock, sameOp)
	}
	return a.Time == b.Time && slices.EqualFunc(a.Ins, b.Ins, sameIn) && slices.EqualFunc(a.Outs, b.Outs, sameOut)
}

// clone: a payment that shares no memory with the one.
func clone(t api.Tx) api.Tx {
	t.Ins, t.Outs = slices.Clone(t.Ins), slices.Clone(t.Outs)
	for i := range t.Ins {
		t.Ins[i].Keys = slices.Clone(t.Ins[i].Keys)
		for j := range t.Ins[i].Keys {
			t.Ins[i].Keys[j] = bytes.Clone(t.Ins[i].Keys[j])
		}
	}
	for i := range t.Outs {
		t.Outs[i].Lock = slices.Clone(t.Outs[i].Lock)
		for j := range t.Outs[i].Lock {
			t.Outs[i].Lock[j].Data = bytes.Clone(t.Outs[i].Lock[j].Data)
		}
	}
	return t
}

// fill: so many bytes, not all of them the same.
func fill(n int) []byte {
	b := make([]byte, n)
	for i := range b {
		b[i] = byte(i*7 + n)
	}
	return b
}

// from: an in of a place, with keys.
func from(tx byte, at int, keys ...[]byte) api.In {
	return api.In{From: api.Place{Tx: api.Digest{0: tx, 31: 200}, At: at}, Keys: keys}
}

func pay(amount int, l ...api.Op) api.Out { return api.Out{Amount: amount, Lock: l} }
func push(data ...byte) api.Op            { return api.Op{Op: api.Push, Data: data} }
func after(n int) api.Op                  { return api.Op{Op: api.After, N: n} }
func many(n int) api.Op                   { return api.Op{Op: api.Many, N: n} }
func op(kind int) api.Op                  { return api.Op{Op: kind} }

// wide: a payment with so many ins and outs, with which nothing is wrong.
func wide(ins, outs int) api.Tx {
	var t api.Tx
	for i := range ins {
		t.Ins = append(t.Ins, from(byte(i/7), i%7, []byte{byte(i)}))
	}
	for i := range outs {
		t.Outs = append(t.Outs, pay(i*100, push(byte(i))))
	}
	return t
}

// edges of numbers, as they are written.
var edges = []int{0, 1, 252, 253, 254, 255, 256, 65535, 65536, math.MaxUint32, math.MaxUint32 + 1}

// edged: a payment with numbers at all edges, wherever they may stand.
func edged() api.Tx {
	t := api.Tx{Time: 65536}
	for i, n := range []int{0, 1, 39} {
		t.Ins = append(t.Ins, from(byte(i), n, fill(0), fill(252), fill(253), fill(254), fill(300)))
	}
	for _, n := range edges {
		t.Outs = append(t.Outs, pay(n, after(min(n, api.MaxHeight)), push(fill(min(n, 300))...)))
	}
	t.Outs = append(t.Outs, pay(api.MaxMoney), pay(api.MaxMoney, many(9)))
	return t
}

// greatest: a payment with which nothing is wrong, and to which nothing can be added.
func greatest() api.Tx {
	t := api.Tx{Time: api.MaxHeight}
	for i := range 40 {
		t.Ins = append(t.Ins, from(255, i, slices.Repeat([][]byte{fill(3000)}, 30)...))
		t.Outs = append(t.Outs, pay(api.MaxMoney, slices.Repeat([]api.Op{push(fill(300)...)}, 60)...))
	}
	return t
}

// samples: payments with which nothing is wrong, none of them long.
func samples() map[string]api.Tx {
	return map[string]api.Tx{
		"no ins":          {Outs: []api.Out{pay(0)}},
		"no ins, not nil": {Ins: []api.In{}, Outs: []api.Out{{Amount: 7, Lock: []api.Op{}}}, Time: 3},
		"one in":          {Ins: []api.In{from(1, 2, []byte{7})}, Outs: []api.Out{pay(300, push(5))}, Time: 4},
		"no keys":         {Ins: []api.In{from(1, 39)}, Outs: []api.Out{pay(1, op(api.Dup))}, Time: api.MaxHeight},
		"keys of nothing": {Ins: []api.In{from(0, 0, nil, []byte{}, nil)}, Outs: []api.Out{pay(1, push())}},
		"several": {
			Ins: []api.In{from(1, 0, []byte("sig"), []byte("text")), from(1, 1), from(2, 0, nil, fill(40)), from(0, 39, fill(3))},
			Outs: []api.Out{
				pay(300, op(api.Hash), push(fill(32)...), op(api.Equal)),
				pay(0),
				pay(api.MaxMoney, op(api.If), push(fill(32)...), op(api.Signed), op(api.Else), after(70000), push(fill(64)...), many(2), op(api.End)),
			},
			Time: 70000,
		},
		"edges of numbers": edged(),
		"40 of each":       wide(40, 40),
	}
}
