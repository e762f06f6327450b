package coin

import (
	"slices"
	"testing"

	"moneyer/api"
)

// behind: a list with others behind its length, which are none of it.
func behind[T any](list []T, others ...T) []T {
	whole := append(append([]T(nil), list...), others...)
	return whole[:len(list)]
}

func roomyOut(o api.Out) api.Out {
	l := slices.Clone(o.Lock)
	for i := range l {
		l[i].Data = behind(l[i].Data, 1, 2, 3)
	}
	o.Lock = behind(l, op(99), op(98))
	return o
}

// roomy: the same coins, with what is wrong lying behind each of their lists.
func roomy(cs []api.Coin) []api.Coin {
	cs = slices.Clone(cs)
	for i := range cs {
		cs[i].Out = roomyOut(cs[i].Out)
	}
	return behind(cs, slices.Repeat([]api.Coin{{Height: -1}}, 50)...)
}

func roomyPayment(p api.Tx) api.Tx {
	p.Ins, p.Outs = slices.Clone(p.Ins), slices.Clone(p.Outs)
	for i := range p.Outs {
		p.Outs[i] = roomyOut(p.Outs[i])
	}
	for i := range p.Ins {
		p.Ins[i].Keys = behind(p.Ins[i].Keys, make([]byte, 3001))
	}
	p.Ins = behind(p.Ins, slices.Repeat([]api.In{{}}, 50)...)
	p.Outs = behind(p.Outs, slices.Repeat([]api.Out{pay(-1)}, 50)...)
	return p
}

// wholeOut: an out with all that lies behind the length of its lists in them.
func wholeOut(o api.Out) api.Out {
	l := o.Lock[:cap(o.Lock)]
	o.Lock = nil
	for _, x := range l {
		x.Data = x.Data[:cap(x.Data)]
		o.Lock = append(o.Lock, x)
	}
	return o
}

// whole: coins with all that lies behind the length of their lists in them.
func whole(cs []api.Coin) []api.Coin {
	var all []api.Coin
	for _, c := range cs[:cap(cs)] {
		c.Out = wholeOut(c.Out)
		all = append(all, c)
	}
	return all
}

func wholePayment(p api.Tx) api.Tx {
	all := api.Tx{Time: p.Time}
	for _, in := range p.Ins[:cap(p.Ins)] {
		in.Keys = in.Keys[:cap(in.Keys)]
		all.Ins = append(all.Ins, in)
	}
	for _, o := range p.Outs[:cap(p.Outs)] {
		all.Outs = append(all.Outs, wholeOut(o))
	}
	return all
}

// rich: coins of locks of several ops, and a payment that spends some of them.
func rich() ([]api.Coin, api.Tx) {
	cs := setOf(5, 10)
	for i := range cs {
		cs[i].Out.Lock = []api.Op{push(byte(i), 1, 2), op(api.Hash), push(9, byte(i)), push()}
	}
	p := spends([]api.Coin{cs[3], cs[1]}, 4, 5, 6)
	for i := range p.Outs {
		p.Outs[i].Lock = []api.Op{push(byte(i), 50, 51), many(3), push(byte(i)), {Op: api.Dup, Data: []byte{}}}
	}
	return cs, p
}

// TestP2WritesNothing: neither into what is handed in nor behind its length, which is not read either.
func TestP2WritesNothing(t *testing.T) {
	cs, p := rich()
	for range 3 {
		for height, want := range map[int]api.Errno{4: api.OK, -1: api.ErrRange} {
			set, payment := roomy(cs), roomyPayment(p)
			beforeSet, beforePayment := text(whole(set)), paymentText(wholePayment(payment))
			checks(t, "roomy", set, api.OK)
			finds(t, "roomy", set, cs[2].Place, api.OK)
			finds(t, "roomy", set, api.Place{}, api.ErrNone)
			applies(t, "roomy", set, payment, height, want)
			if text(whole(set)) != beforeSet || paymentText(wholePayment(payment)) != beforePayment {
				t.Fatal("Apply writes into what is handed in")
			}
		}
		told := applies(t, "to be undone", cs, p, 4, api.OK)
		set, payment, spent := roomy(told.set), roomyPayment(p), roomy(told.spent)
		beforeSet, beforePayment, beforeSpent := text(whole(set)), paymentText(wholePayment(payment)), text(whole(spent))
		undoes(t, "roomy", set, payment, spent, api.OK)
		undoes(t, "roomy, one less", set, payment, spent[:1], api.ErrLength)
		if text(whole(set)) != beforeSet || paymentText(wholePayment(payment)) != beforePayment || text(whole(spent)) != beforeSpent {
			t.Fatal("Undo writes into what is handed in")
		}
	}
}

// spoilOut changes all that there is in an out, and what lies between length and capacity, too.
func spoilOut(o api.Out) {
	l := o.Lock[:cap(o.Lock)]
	for i := range l {
		data := l[i].Data[:cap(l[i].Data)]
		for j := range data {
			data[j] ^= 255
		}
		l[i] = api.Op{Op: 77, N: 77}
	}
}

func spoil(cs []api.Coin) {
	cs = cs[:cap(cs)]
	for i := range cs {
		spoilOut(cs[i].Out)
		cs[i] = api.Coin{Height: -77}
	}
}

func spoilPayment(p api.Tx) {
	for _, o := range p.Outs {
		spoilOut(o)
	}
	for i := range p.Outs {
		p.Outs[i] = pay(-77)
	}
	for i, in := range p.Ins {
		for _, k := range in.Keys {
			k[0] ^= 255
		}
		p.Ins[i] = api.In{}
	}
}

func TestP2FindIsFresh(t *testing.T) {
	cs, _ := rich()
	before := text(cs)
	one, _ := Find(cs, cs[2].Place)
	two, _ := Find(cs, cs[2].Place)
	want := text([]api.Coin{two})
	spoil([]api.Coin{one})
	if text(cs) != before || text([]api.Coin{two}) != want {
		t.Error("what Find tells shares memory")
	}
	spoil(cs)
	if text([]api.Coin{two}) != want {
		t.Error("what Find tells changes with the set")
	}
}

// TestP2ApplyIsFresh: the set and what was spent share nothing with what was handed in, with each other, or with what is told another time.
func TestP2ApplyIsFresh(t *testing.T) {
	cs, p := rich()
	p.Ins = append(p.Ins, api.In{From: cs[0].Place})
	beforeSet, beforePayment := text(cs), paymentText(p)
	set, spent, _, _ := Apply(cs, p, 4)
	other, otherSpent, _, _ := Apply(cs, p, 4)
	wantSet, wantSpent := text(set), text(spent)
	spoil(set)
	if text(spent) != wantSpent {
		t.Error("the set shares memory with what was spent")
	}
	spoil(spent)
	if text(cs) != beforeSet || paymentText(p) != beforePayment || text(other) != wantSet || text(otherSpent) != wantSpent {
		t.Error("what Apply tells shares memory")
	}
	spoil(cs)
	spoilPayment(p)
	if text(other) != wantSet || text(otherSpent) != wantSpent {
		t.Error("what Apply tells changes with what was handed in")
	}
}

func TestP2UndoIsFresh(t *testing.T) {
	cs, p := rich()
	set, spent, _, _ := Apply(cs, p, 4)
	beforeSet, beforePayment, beforeSpent := text(set), paymentText(p), text(spent)
	one, _ := Undo(set, p, spent)
	two, _ := Undo(set, p, spent)
	spoil(one)
	if text(set) != beforeSet || paymentText(p) != beforePayment || text(spent) != beforeSpent || text(two) != text(cs) {
		t.Error("what Undo tells shares memory")
	}
	spoil(set)
	spoil(spent)
	spoilPayment(p)
	if text(two) != text(cs) {
		t.Error("what Undo tells changes with what was handed in")
	}
}

// TestP2SharesNothing: no list of what is told changes with another one, nor with what is appended to it; also where what is handed in shares all.
func TestP2SharesNothing(t *testing.T) {
	data := []byte{1, 2, 3}
	l := []api.Op{{Op: api.Push, Data: data}, {Op: api.Push, Data: data}}
	cs := setOf(4, 10)
	for i := range cs {
		cs[i].Out.Lock = l
	}
	p := spends(cs[:2], 3, 4)
	p.Outs[0].Lock, p.Outs[1].Lock = l, l
	set, spent, _, err := Apply(cs, p, 4)
	if err != nil {
		t.Fatal(err)
	}
	back, err := Undo(set, p, spent)
	if err != nil {
		t.Fatal(err)
	}
	found, err := Find(cs, cs[0].Place)
	if err != nil {
		t.Fatal(err)
	}
	apart(t, "Find", []api.Coin{found})
	apart(t, "Apply", slices.Concat(set, spent))
	apart(t, "Undo", back)
}

// apart holds that of the coins' lists, all of which are alike, each is by itself.
func apart(t *testing.T, name string, cs []api.Coin) {
	t.Helper()
	for i, c := range cs {
		_ = append(c.Out.Lock, op(99))
		for j := range c.Out.Lock {
			_ = append(c.Out.Lock[j].Data, 99)
			was := text(otherDrop(cs, i))
			c.Out.Lock[j].Data[0] ^= 255
			c.Out.Lock[1-j].N++
			if text(otherDrop(cs, i)) != was || c.Out.Lock[1-j].Data[0] != 1 {
				t.Fatalf("%s: lists of coin %d are shared", name, i)
			}
			c.Out.Lock[j].Data[0] ^= 255
			c.Out.Lock[1-j].N--
		}
	}
}

// TestP2KeepsNothing: what is told hangs on what is handed in alone, also behind errors.
func TestP2KeepsNothing(t *testing.T) {
	cs, p := rich()
	for range 3 {
		applies(t, "a payment", cs, p, 4, api.OK)
		for _, f := range deedFaults() {
			d := newDeed()
			f.make(&d)
			applies(t, f.name, d.set(), d.p, d.height, f.want)
		}
		for _, f := range undoFaults() {
			changed(t, f.name, f.want, f.make)
		}
	}
	cs[1].Out.Amount = 2
	applies(t, "a payment, behind a change", cs, p, 4, api.ErrMoney)
	cs[1].Place = place(9, 9)
	applies(t, "a payment, behind another change", cs, p, 4, api.ErrTwice)
}

// TestP2CloneAll: the same coins, of a set or not, which share nothing with the ones.
func TestP2CloneAll(t *testing.T) {
	rich, _ := rich()
	turned := slices.Clone(rich)
	slices.Reverse(turned)
	for _, cs := range [][]api.Coin{nil, {}, rich, turned, setOf(1001, 1), {{Height: -1, Out: pay(-1, op(0))}}} {
		want := text(cs)
		set := roomy(cs)
		one, two := CloneAll(set), CloneAll(set)
		if text(one) != want || text(two) != want {
			t.Errorf("got %s, want %s", brief(one), brief(cs))
		}
		before := text(whole(set))
		spoil(one)
		if text(whole(set)) != before || text(two) != want {
			t.Error("the coins share memory")
		}
		spoil(set)
		if text(two) != want {
			t.Error("the coins change with those that were handed in")
		}
	}
}
