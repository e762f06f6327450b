package coin

import (
	"bytes"
	"encoding/hex"
	"fmt"
	"math/big"
	"slices"
	"strconv"
	"testing"

	"moneyer/api"
	"moneyer/lock"
	"moneyer/plain"
	"moneyer/tx"
)

// This file has what the calls are to tell, in other words: places as texts, sets gone through from end to end, sums of unbounded numbers, and all that may be wrong as a list in the chapter's order. It asks the layers above of locks and of payments.

// wrong is one of the things that may be wrong, and what is told then.
type wrong struct {
	is   bool
	what api.Errno
}

// firstOf: the first of all that may be wrong.
func firstOf(all []wrong) api.Errno {
	for _, w := range all {
		if w.is {
			return w.what
		}
	}
	return api.OK
}

func otherCompare(a, b api.Place) int {
	first, second := string(a.Tx[:]), string(b.Tx[:])
	switch {
	case first < second, first == second && a.At < b.At:
		return -1
	case first > second, a.At > b.At:
		return 1
	}
	return 0
}

// otherAt: where the coin of a place is in coins of any order, or -1.
func otherAt(cs []api.Coin, p api.Place) int {
	return slices.IndexFunc(cs, func(c api.Coin) bool { return bytes.Equal(c.Place.Tx[:], p.Tx[:]) && c.Place.At == p.At })
}

func otherCheck(cs []api.Coin) api.Errno {
	all := append(make([]wrong, 0, 1+5*len(cs)), wrong{len(cs) >= 1001, api.ErrFull})
	for i, c := range cs {
		all = append(all,
			wrong{i > 0 && otherCompare(cs[max(i, 1)-1].Place, c.Place) != -1, api.ErrTwice},
			wrong{c.Place.At <= -1 || c.Place.At >= 40, api.ErrRange},
			wrong{c.Height <= -1 || c.Height >= 1<<30+1, api.ErrRange},
			wrong{c.Out.Amount <= -1 || c.Out.Amount >= 1<<50+1, api.ErrRange})
		told := plain.Told(lock.Check(c.Out.Lock))
		all = append(all, wrong{told != api.OK, told})
	}
	return firstOf(all)
}

// ofSet: what is wrong with a set, as one of the things that may be.
func ofSet(cs []api.Coin) wrong {
	told := otherCheck(cs)
	return wrong{told != api.OK, told}
}

func otherTotal(outs []api.Out) *big.Int {
	sum := new(big.Int)
	for _, o := range outs {
		sum.Add(sum, big.NewInt(int64(o.Amount)))
	}
	return sum
}

func otherTooMuch(outs []api.Out) bool {
	return otherTotal(outs).BitLen() > 50 && otherTotal(outs).Cmp(big.NewInt(1<<50)) > 0
}

func outsOf(cs []api.Coin) []api.Out {
	var outs []api.Out
	for _, c := range cs {
		outs = append(outs, c.Out)
	}
	return outs
}

func otherSum(cs []api.Coin) (int, api.Errno) {
	if told := firstOf([]wrong{ofSet(cs), {otherTooMuch(outsOf(cs)), api.ErrFull}}); told != api.OK {
		return 0, told
	}
	return int(otherTotal(outsOf(cs)).Int64()), api.OK
}

// otherPut: a set with one coin more, which goes ahead of the first one that is behind it.
func otherPut(cs []api.Coin, c api.Coin) []api.Coin {
	for i := range cs {
		if otherCompare(c.Place, cs[i].Place) < 0 {
			return slices.Concat(cs[:i], []api.Coin{c}, cs[i:])
		}
	}
	return slices.Concat(cs, []api.Coin{c})
}

func otherDrop(cs []api.Coin, at int) []api.Coin { return slices.Concat(cs[:at], cs[at+1:]) }

// otherOwn: the coins of a payment's outs; of one that is none too, at places of its own.
func otherOwn(p api.Tx, height int) []api.Coin {
	id, _ := tx.ID(p)
	var own []api.Coin
	for i, o := range p.Outs {
		own = append(own, api.Coin{Place: api.Place{Tx: id, At: i}, Out: o, Height: height})
	}
	return own
}

// applied is what Apply tells.
type applied struct {
	set, spent []api.Coin
	left       int
	wrong      api.Errno
}

func otherApply(cs []api.Coin, p api.Tx, height int) applied {
	all := []wrong{
		ofSet(cs),
		{tx.Check(p) != nil, plain.Told(tx.Check(p))},
		{height <= -1 || height >= 1<<30+1, api.ErrRange},
	}
	set, own := cs, otherOwn(p, height)
	var spent []api.Coin
	for _, in := range p.Ins {
		i := otherAt(set, in.From)
		all = append(all, wrong{i < 0, api.ErrNone})
		if i >= 0 {
			spent = append(spent, set[i])
			set = otherDrop(set, i)
		}
	}
	left := new(big.Int).Sub(otherTotal(outsOf(spent)), otherTotal(p.Outs))
	all = append(all,
		wrong{otherTooMuch(outsOf(spent)), api.ErrFull},
		wrong{otherTooMuch(p.Outs), api.ErrFull},
		wrong{len(p.Ins) > 0 && left.Sign() < 0, api.ErrMoney})
	for _, c := range own {
		all = append(all, wrong{otherAt(cs, c.Place) >= 0, api.ErrTwice})
		set = otherPut(set, c)
	}
	all = append(all, wrong{len(set) >= 1001, api.ErrFull})
	if told := firstOf(all); told != api.OK {
		return applied{wrong: told}
	}
	if len(p.Ins) == 0 {
		return applied{set: set}
	}
	return applied{set, spent, int(left.Int64()), api.OK}
}

func otherUndo(cs []api.Coin, p api.Tx, spent []api.Coin) ([]api.Coin, api.Errno) {
	all := []wrong{
		ofSet(cs),
		{tx.Check(p) != nil, plain.Told(tx.Check(p))},
	}
	set := cs
	for _, c := range otherOwn(p, 0) {
		i := otherAt(set, c.Place)
		all = append(all, wrong{i < 0 || outText(set[max(i, 0)].Out) != outText(c.Out), api.ErrNone})
		if i >= 0 {
			set = otherDrop(set, i)
		}
	}
	all = append(all, wrong{len(spent) != len(p.Ins), api.ErrLength})
	for i, c := range spent[:min(len(spent), len(p.Ins))] {
		all = append(all,
			wrong{otherCompare(c.Place, p.Ins[i].From) != 0, api.ErrFork},
			wrong{otherAt(cs, c.Place) >= 0, api.ErrTwice})
	}
	for _, c := range spent {
		set = otherPut(set, c)
	}
	all = append(all, ofSet(set))
	if told := firstOf(all); told != api.OK {
		return nil, told
	}
	return set, api.OK
}

// outText: all of an out, an empty list and nil being the same.
func outText(o api.Out) string { return string(appendOut(nil, o)) }

func appendOut(b []byte, o api.Out) []byte {
	b = append(strconv.AppendInt(b, int64(o.Amount), 10), '\n')
	for _, op := range o.Lock {
		b = append(strconv.AppendInt(b, int64(op.Op), 10), ' ')
		b = append(strconv.AppendInt(b, int64(op.N), 10), ' ')
		b = append(hex.AppendEncode(b, op.Data), '\n')
	}
	return b
}

// text: all of coins, an empty list and nil being the same.
func text(cs []api.Coin) string {
	b := make([]byte, 0, 150*len(cs))
	for _, c := range cs {
		b = append(hex.AppendEncode(b, c.Place.Tx[:]), ' ')
		b = append(strconv.AppendInt(b, int64(c.Place.At), 10), ' ')
		b = append(strconv.AppendInt(b, int64(c.Height), 10), ' ')
		b = appendOut(b, c.Out)
	}
	return string(b)
}

// brief: coins as text, or where it begins.
func brief(cs []api.Coin) string { return fmt.Sprintf("%d coins: %.300s", len(cs), text(cs)) }

// paymentText: all of a payment.
func paymentText(p api.Tx) string { return fmt.Sprint(p) }

// copyOut: an out that shares no memory with the one.
func copyOut(o api.Out) api.Out {
	o.Lock = slices.Clone(o.Lock)
	for i := range o.Lock {
		o.Lock[i].Data = bytes.Clone(o.Lock[i].Data)
	}
	return o
}

// copied: coins that share no memory with the ones.
func copied(cs []api.Coin) []api.Coin {
	cs = slices.Clone(cs)
	for i := range cs {
		cs[i].Out = copyOut(cs[i].Out)
	}
	return cs
}

// checks holds what Check tells, and that all other calls tell it of the set ahead of all else.
func checks(t *testing.T, name string, cs []api.Coin, want api.Errno) {
	t.Helper()
	before := text(cs)
	if err := Check(cs); plain.Told(err) != want {
		t.Errorf("%s: Check tells %v, want %v", name, err, want)
	}
	if other := otherCheck(cs); other != want {
		t.Errorf("%s: the other program tells %v, want %v", name, other, want)
	}
	sum, err := Sum(cs)
	if other, told := otherSum(cs); sum != other || plain.Told(err) != told {
		t.Errorf("%s: Sum tells %d, %v, want %d, %v", name, sum, err, other, told)
	}
	if want != api.OK {
		// Of a payment that is none, at no height, with coins that did not come from it.
		finds(t, name, cs, api.Place{}, want)
		applies(t, name, cs, api.Tx{}, -1, want)
		undoes(t, name, cs, api.Tx{}, cs[:1], want)
	}
	if text(cs) != before {
		t.Errorf("%s: the set is changed", name)
	}
}

// finds holds what Find tells, and that it is the coin that the other program finds.
func finds(t *testing.T, name string, cs []api.Coin, p api.Place, want api.Errno) {
	t.Helper()
	got, err := Find(cs, p)
	var other api.Coin
	if want == api.OK {
		other = cs[otherAt(cs, p)]
	}
	if plain.Told(err) != want || text([]api.Coin{got}) != text([]api.Coin{other}) {
		t.Errorf("%s: Find tells %s, %v, want %s, %v", name, brief([]api.Coin{got}), err, brief([]api.Coin{other}), want)
	}
}

// applies holds what Apply tells, that what it is given stays as it was, and that Undo gives the set back.
func applies(t *testing.T, name string, cs []api.Coin, p api.Tx, height int, want api.Errno) applied {
	t.Helper()
	beforeSet, beforePayment := text(cs), paymentText(p)
	set, spent, left, err := Apply(cs, p, height)
	got := applied{set, spent, left, plain.Told(err)}
	other := otherApply(cs, p, height)
	if got.wrong != want || other.wrong != want {
		t.Errorf("%s: Apply tells %v, the other program %v, want %v", name, err, other.wrong, want)
	}
	if text(set) != text(other.set) || text(spent) != text(other.spent) || left != other.left {
		t.Errorf("%s: Apply tells %s, %s, %d, want %s, %s, %d", name, brief(set), brief(spent), left, brief(other.set), brief(other.spent), other.left)
	}
	if text(cs) != beforeSet || paymentText(p) != beforePayment {
		t.Errorf("%s: Apply changes what it is given", name)
	}
	if want != api.OK {
		return got
	}
	if err := Check(set); err != nil {
		t.Errorf("%s: what Apply tells is no set: %v", name, err)
	}
	if back := undoes(t, name+", back", set, p, spent, api.OK); text(back) != beforeSet {
		t.Errorf("%s: Undo behind Apply tells %s, want %s", name, brief(back), brief(cs))
	}
	return got
}

// undoes holds what Undo tells, and that what it is given stays as it was.
func undoes(t *testing.T, name string, cs []api.Coin, p api.Tx, spent []api.Coin, want api.Errno) []api.Coin {
	t.Helper()
	beforeSet, beforePayment, beforeSpent := text(cs), paymentText(p), text(spent)
	set, err := Undo(cs, p, spent)
	other, told := otherUndo(cs, p, spent)
	if plain.Told(err) != want || told != want {
		t.Errorf("%s: Undo tells %v, the other program %v, want %v", name, err, told, want)
	}
	if text(set) != text(other) {
		t.Errorf("%s: Undo tells %s, want %s", name, brief(set), brief(other))
	}
	if text(cs) != beforeSet || paymentText(p) != beforePayment || text(spent) != beforeSpent {
		t.Errorf("%s: Undo changes what it is given", name)
	}
	return set
}

// place: a place of one of 256 payments.
func place(n byte, at int) api.Place {
	return api.Place{Tx: api.Digest{0: n, 31: 200}, At: at}
}

func push(data ...byte) api.Op { return api.Op{Op: api.Push, Data: data} }
func op(kind int) api.Op       { return api.Op{Op: kind} }
func many(n int) api.Op        { return api.Op{Op: api.Many, N: n} }

func pay(amount int, l ...api.Op) api.Out { return api.Out{Amount: amount, Lock: l} }

func coinAt(p api.Place, amount int) api.Coin {
	return api.Coin{Place: p, Out: pay(amount, push(p.Tx[0], byte(p.At))), Height: 5}
}

// setOf: so many coins, of 40 each of payments all over the digests, each one of the same amount.
func setOf(n, amount int) []api.Coin {
	var cs []api.Coin
	for i := range n {
		cs = append(cs, coinAt(place(byte(i/40*10), i%40), amount))
	}
	return cs
}

// spends: a payment that spends coins, in that order, with one out of each amount.
func spends(cs []api.Coin, amounts ...int) api.Tx {
	var p api.Tx
	for i, c := range cs {
		p.Ins = append(p.Ins, api.In{From: c.Place, Keys: [][]byte{{byte(i)}, {7}}})
	}
	for i, n := range amounts {
		p.Outs = append(p.Outs, pay(n, push(byte(i)), op(api.Equal)))
	}
	return p
}

// own: the coin at one of a payment's own places.
func own(p api.Tx, at int) api.Coin {
	id, err := tx.ID(p)
	if err != nil {
		panic("no payment")
	}
	return api.Coin{Place: api.Place{Tx: id, At: at}, Out: pay(3), Height: 1}
}

// put: a set with coins more.
func put(cs []api.Coin, more ...api.Coin) []api.Coin {
	for _, c := range more {
		cs = otherPut(cs, c)
	}
	return cs
}
