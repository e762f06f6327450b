package spend

import (
	"bytes"
	"cmp"
	"encoding/hex"
	"fmt"
	"math/big"
	"slices"
	"strconv"
	"strings"
	"testing"

	"moneyer/api"
	"moneyer/coin"
	"moneyer/lock"
	"moneyer/plain"
	"moneyer/tx"
)

// This file has what the calls are to tell, in other words: what is there stands in a map by places as texts, in no order, sums are unbounded numbers, and all that may be wrong is a list in the chapters' order. It asks the layers above of the set that is handed in, of payments, and of what opens a lock.

// wrong is one of the things that may be wrong, and what is told then.
type wrong struct {
	is   bool
	what api.Errno
}

// firstOf: the first of all that may be wrong.
func firstOf(all []wrong) api.Errno {
	for _, w := range all {
		if w.is {
			return w.what
		}
	}
	return api.OK
}

// is: an error as something that may be wrong.
func is(err error) wrong { return wrong{err != nil, plain.Told(err)} }

// answer is what All tells.
type answer struct {
	set   []api.Coin
	left  int
	wrong api.Errno
}

// there is what is there, by its place as text.
type there map[string]api.Coin

func placeText(p api.Place) string { return hex.EncodeToString(p.Tx[:]) + " " + strconv.Itoa(p.At) }

func tooMuch(sum *big.Int) bool { return sum.Cmp(big.NewInt(1<<50)) > 0 }

func isNoHeight(height int) bool { return height <= -1 || height >= 1<<30+1 }

// pay does a payment, or tells what is wrong with it; left is what is left over of it.
func (all there) pay(p api.Tx, height int) (left *big.Int, told api.Errno) {
	list := []wrong{is(tx.Check(p)), {isNoHeight(height), api.ErrRange}}
	had, paid := new(big.Int), new(big.Int)
	for _, in := range p.Ins {
		c, ok := all[placeText(in.From)]
		list = append(list, wrong{!ok, api.ErrNone})
		had.Add(had, big.NewInt(int64(c.Out.Amount)))
	}
	for _, o := range p.Outs {
		paid.Add(paid, big.NewInt(int64(o.Amount)))
	}
	list = append(list,
		wrong{tooMuch(had), api.ErrFull},
		wrong{tooMuch(paid), api.ErrFull},
		wrong{len(p.Ins) > 0 && paid.Cmp(had) > 0, api.ErrMoney})
	id, _ := tx.ID(p)
	for at := range p.Outs {
		_, ok := all[placeText(api.Place{Tx: id, At: at})]
		list = append(list, wrong{ok, api.ErrTwice})
	}
	list = append(list,
		wrong{len(all)-len(p.Ins)+len(p.Outs) >= 1001, api.ErrFull},
		wrong{height <= p.Time-1, api.ErrEarly})
	if told := firstOf(list); told != api.OK {
		return nil, told
	}
	for _, in := range p.Ins {
		from := placeText(in.From)
		if told := plain.Told(lock.Run(all[from].Out.Lock, in.Keys, id, height)); told != api.OK {
			return nil, told
		}
		delete(all, from)
	}
	for at, o := range p.Outs {
		own := api.Place{Tx: id, At: at}
		all[placeText(own)] = api.Coin{Place: own, Out: o, Height: height}
	}
	if len(p.Ins) == 0 {
		return new(big.Int), api.OK
	}
	return had.Sub(had, paid), api.OK
}

func otherAll(cs []api.Coin, ts []api.Tx, height int) answer {
	switch {
	case len(ts) >= 101:
		return answer{wrong: api.ErrFull}
	case len(ts) == 0:
		return answer{set: cs}
	}
	if told := plain.Told(coin.Check(cs)); told != api.OK {
		return answer{wrong: told}
	}
	all, sum := there{}, new(big.Int)
	for _, c := range cs {
		all[placeText(c.Place)] = c
	}
	for _, p := range ts {
		left, told := all.pay(p, height)
		if told != api.OK {
			return answer{wrong: told}
		}
		sum.Add(sum, left)
	}
	got := answer{left: int(sum.Int64())}
	for _, c := range all {
		got.set = append(got.set, c)
	}
	slices.SortFunc(got.set, func(a, b api.Coin) int {
		return cmp.Or(strings.Compare(string(a.Place.Tx[:]), string(b.Place.Tx[:])), a.Place.At-b.Place.At)
	})
	return got
}

// outText: all of an out, an empty list and nil being the same.
func outText(b []byte, o api.Out) []byte {
	b = append(strconv.AppendInt(b, int64(o.Amount), 10), '\n')
	for _, op := range o.Lock {
		b = append(strconv.AppendInt(b, int64(op.Op), 10), ' ')
		b = append(strconv.AppendInt(b, int64(op.N), 10), ' ')
		b = append(hex.AppendEncode(b, op.Data), '\n')
	}
	return b
}

// text: all of coins, an empty list and nil being the same.
func text(cs []api.Coin) string {
	b := make([]byte, 0, 150*len(cs))
	for _, c := range cs {
		b = append(hex.AppendEncode(b, c.Place.Tx[:]), ' ')
		b = append(strconv.AppendInt(b, int64(c.Place.At), 10), ' ')
		b = append(strconv.AppendInt(b, int64(c.Height), 10), ' ')
		b = outText(b, c.Out)
	}
	return string(b)
}

// brief: coins as text, or where it begins.
func brief(cs []api.Coin) string { return fmt.Sprintf("%d coins: %.300s", len(cs), text(cs)) }

// paymentsText: all of payments, an empty list and nil being the same.
func paymentsText(ts []api.Tx) string {
	var b []byte
	for _, p := range ts {
		b = append(strconv.AppendInt(b, int64(p.Time), 10), '\n')
		for _, in := range p.Ins {
			b = append(append(b, placeText(in.From)...), " from\n"...)
			for _, k := range in.Keys {
				b = append(hex.AppendEncode(b, k), " key\n"...)
			}
		}
		for _, o := range p.Outs {
			b = outText(b, o)
		}
		b = append(b, '.')
	}
	return string(b)
}

// total: how much coins are.
func total(cs []api.Coin) int {
	sum := 0
	for _, c := range cs {
		sum += c.Out.Amount
	}
	return sum
}

// checks holds what Check tells of a payment, and that All tells the same of it alone.
func checks(t *testing.T, name string, cs []api.Coin, p api.Tx, height int, want api.Errno) answer {
	t.Helper()
	beforeSet, beforePayment := text(cs), paymentsText([]api.Tx{p})
	if err := Check(cs, p, height); plain.Told(err) != want {
		t.Errorf("%s: Check tells %v, want %v", name, err, want)
	}
	if text(cs) != beforeSet || paymentsText([]api.Tx{p}) != beforePayment {
		t.Errorf("%s: Check changes what it is given", name)
	}
	return pays(t, name+", alone", cs, []api.Tx{p}, height, want)
}

// pays holds what All tells: what the other program does, what Check and Apply do one by one, and that nothing is lost.
func pays(t *testing.T, name string, cs []api.Coin, ts []api.Tx, height int, want api.Errno) answer {
	t.Helper()
	beforeSet, beforePayments := text(cs), paymentsText(ts)
	set, left, err := All(cs, ts, height)
	got := answer{set, left, plain.Told(err)}
	if text(cs) != beforeSet || paymentsText(ts) != beforePayments {
		t.Errorf("%s: All changes what it is given", name)
	}
	other := otherAll(cs, ts, height)
	if got.wrong != want || other.wrong != want {
		t.Errorf("%s: All tells %v, the other program %v, want %v", name, err, other.wrong, want)
	}
	if text(set) != text(other.set) || left != other.left {
		t.Errorf("%s: All tells %s, %d, want %s, %d", name, brief(set), left, brief(other.set), other.left)
	}
	if len(ts) <= 100 {
		if steps := oneByOne(cs, ts, height); steps.wrong != got.wrong || text(steps.set) != text(set) || steps.left != left {
			t.Errorf("%s: All tells %s, %d, %v, one by one %s, %d, %v", name, brief(set), left, err, brief(steps.set), steps.left, steps.wrong)
		}
	}
	if want == api.OK && total(set)+left != total(cs)+made(ts) {
		t.Errorf("%s: %d are there behind, %d left over, but %d were there, and %d made", name, total(set), left, total(cs), made(ts))
	}
	if want == api.OK && len(ts) > 0 && coin.Check(set) != nil {
		t.Errorf("%s: what All tells is no set: %v", name, coin.Check(set))
	}
	return got
}

// made: what payments without Ins pay.
func made(ts []api.Tx) int {
	sum := 0
	for _, p := range ts {
		for _, o := range p.Outs {
			if len(p.Ins) == 0 {
				sum += o.Amount
			}
		}
	}
	return sum
}

// oneByOne: what Check and Apply tell of payments, each with what those ahead left.
func oneByOne(cs []api.Coin, ts []api.Tx, height int) answer {
	all := answer{set: cs}
	for _, p := range ts {
		if err := Check(all.set, p, height); err != nil {
			return answer{wrong: plain.Told(err)}
		}
		set, _, left, err := coin.Apply(all.set, p, height)
		if err != nil {
			return answer{wrong: plain.Told(err)}
		}
		all.set, all.left = set, all.left+left
	}
	return all
}

// place: a place of one of 256 payments.
func place(n byte, at int) api.Place {
	return api.Place{Tx: api.Digest{0: n, 31: 200}, At: at}
}

func push(data ...byte) api.Op { return api.Op{Op: api.Push, Data: data} }
func after(n int) api.Op       { return api.Op{Op: api.After, N: n} }
func many(n int) api.Op        { return api.Op{Op: api.Many, N: n} }

// ops: a lock of ops that have neither number nor bytes, and of ones that are told as they are.
func ops(all ...any) []api.Op {
	var l []api.Op
	for _, one := range all {
		switch o := one.(type) {
		case int:
			l = append(l, api.Op{Op: o})
		case api.Op:
			l = append(l, o)
		}
	}
	return l
}

func out(amount int, l ...api.Op) api.Out { return api.Out{Amount: amount, Lock: l} }

// coinAt: a coin that is opened by the two bytes of where it is.
func coinAt(p api.Place, amount int) api.Coin {
	return api.Coin{Place: p, Out: out(amount, push(p.Tx[0], byte(p.At)), api.Op{Op: api.Equal}), Height: 5}
}

// opens: what opens a coin of coinAt.
func opens(p api.Place) [][]byte { return [][]byte{{p.Tx[0], byte(p.At)}} }

// setOf: so many coins, of 40 each of payments all over the digests, each one of the same amount.
func setOf(n, amount int) []api.Coin {
	var cs []api.Coin
	for i := range n {
		cs = append(cs, coinAt(place(byte(i/40*10), i%40), amount))
	}
	return cs
}

// spends: a payment that spends coins of coinAt, in that order, and opens them; with one out of each amount, which keys of one byte open.
func spends(cs []api.Coin, amounts ...int) api.Tx {
	var p api.Tx
	for _, c := range cs {
		p.Ins = append(p.Ins, api.In{From: c.Place, Keys: opens(c.Place)})
	}
	for i, n := range amounts {
		p.Outs = append(p.Outs, out(n, push(byte(i)), api.Op{Op: api.Equal}))
	}
	return p
}

// at: one of a payment's own places.
func at(p api.Tx, i int) api.Place {
	id, err := tx.ID(p)
	if err != nil {
		panic("no payment")
	}
	return api.Place{Tx: id, At: i}
}

// then: a payment that spends some of what another one of spends paid, and opens it.
func then(p api.Tx, outs []int, amounts ...int) api.Tx {
	next := spends(nil, amounts...)
	for _, i := range outs {
		next.Ins = append(next.Ins, api.In{From: at(p, i), Keys: [][]byte{{byte(i)}}})
	}
	return next
}

// put: a set with coins more, in its order.
func put(cs []api.Coin, more ...api.Coin) []api.Coin {
	cs = slices.Concat(cs, more)
	slices.SortFunc(cs, func(a, b api.Coin) int {
		return cmp.Or(bytes.Compare(a.Place.Tx[:], b.Place.Tx[:]), cmp.Compare(a.Place.At, b.Place.At))
	})
	return cs
}

// drop: a set without the coin of a place.
func drop(cs []api.Coin, p api.Place) []api.Coin {
	return slices.DeleteFunc(slices.Clone(cs), func(c api.Coin) bool { return c.Place == p })
}
