package spend

import (
	"bytes"
	"slices"
	"testing"

	"moneyer/api"
)

// behind: a list with others behind its length, which are none of it.
func behind[T any](list []T, others ...T) []T {
	whole := append(append([]T(nil), list...), others...)
	return whole[:len(list)]
}

func roomyOut(o api.Out) api.Out {
	l := slices.Clone(o.Lock)
	for i := range l {
		l[i].Data = behind(l[i].Data, 1, 2, 3)
	}
	o.Lock = behind(l, ops(99, 98)...)
	return o
}

// roomy: the same coins, with what is wrong lying behind each of their lists.
func roomy(cs []api.Coin) []api.Coin {
	cs = slices.Clone(cs)
	for i := range cs {
		cs[i].Out = roomyOut(cs[i].Out)
	}
	return behind(cs, slices.Repeat([]api.Coin{{Height: -1}}, 50)...)
}

func roomyPayments(ts []api.Tx) []api.Tx {
	ts = slices.Clone(ts)
	for i, p := range ts {
		p.Ins, p.Outs = slices.Clone(p.Ins), slices.Clone(p.Outs)
		for j := range p.Outs {
			p.Outs[j] = roomyOut(p.Outs[j])
		}
		for j, in := range p.Ins {
			keys := slices.Clone(in.Keys)
			for k := range keys {
				keys[k] = behind(keys[k], bytes.Repeat([]byte{7}, 3000)...)
			}
			p.Ins[j].Keys = behind(keys, slices.Repeat([][]byte{{7}}, 30)...)
		}
		ts[i].Ins = behind(p.Ins, slices.Repeat([]api.In{{From: place(7, 40)}}, 50)...)
		ts[i].Outs = behind(p.Outs, slices.Repeat([]api.Out{out(-1)}, 50)...)
	}
	return behind(ts, slices.Repeat([]api.Tx{{Time: -1}}, 100)...)
}

// all: a list with what lies behind its length in it.
func all[T any](list []T) []T { return slices.Clone(list[:cap(list)]) }

func wholeOut(o api.Out) api.Out {
	o.Lock = all(o.Lock)
	for i := range o.Lock {
		o.Lock[i].Data = all(o.Lock[i].Data)
	}
	return o
}

// whole: coins with all that lies behind the length of their lists in them.
func whole(cs []api.Coin) []api.Coin {
	cs = all(cs)
	for i := range cs {
		cs[i].Out = wholeOut(cs[i].Out)
	}
	return cs
}

// wholePayments: payments with all that lies behind the length of their lists in them.
func wholePayments(ts []api.Tx) []api.Tx {
	ts = all(ts)
	for i := range ts {
		ts[i].Ins, ts[i].Outs = all(ts[i].Ins), all(ts[i].Outs)
		for j := range ts[i].Outs {
			ts[i].Outs[j] = wholeOut(ts[i].Outs[j])
		}
		for j := range ts[i].Ins {
			keys := all(ts[i].Ins[j].Keys)
			for k := range keys {
				keys[k] = all(keys[k])
			}
			ts[i].Ins[j].Keys = keys
		}
	}
	return ts
}

// rich: coins of locks of several ops, and payments that spend some of them, and what others pay.
func rich() ([]api.Coin, []api.Tx) {
	cs := setOf(6, 10)
	for i := range cs {
		cs[i].Out.Lock = ops(after(3), push(byte(i), 1, 2), api.Equal, api.Must, api.Dup, push(byte(i)), api.Equal, api.Swap, api.Drop)
	}
	opens := func(i int) [][]byte { return [][]byte{{byte(i)}, {byte(i), 1, 2}} }
	own := ops(api.Dup, push(7), api.Equal, api.If, api.Drop, push(1), api.Else, push(public(1)...), api.Signed, api.End)
	a := spends([]api.Coin{cs[3], cs[1]}, 4, 5, 6)
	a.Ins[0].Keys, a.Ins[1].Keys = opens(3), opens(1)
	a.Outs[0].Lock, a.Outs[1].Lock = own, slices.Clone(own)
	b := spends(nil, 6)
	c := then(a, []int{0, 2}, 3, 3)
	c.Ins[0].Keys = signed(1)(at(c, 0).Tx)
	d := spends(cs[5:], 8, 1)
	d.Ins[0].Keys = opens(5)
	return cs, []api.Tx{a, b, c, d}
}

// TestP2WritesNothing: neither into what is handed in nor behind its length, which is not read either.
func TestP2WritesNothing(t *testing.T) {
	cs, ts := rich()
	for height, wrong := range map[int]api.Errno{4: api.OK, 2: api.ErrEarly, -1: api.ErrRange} {
		for n := range len(ts) + 1 {
			want := wrong
			if n == 0 {
				want = api.OK
			}
			set, payments := roomy(cs), roomyPayments(ts[:n])
			beforeSet, beforePayments := text(whole(set)), paymentsText(wholePayments(payments))
			pays(t, "roomy", set, payments, height, want)
			for _, p := range payments {
				Check(set, p, height)
			}
			if text(whole(set)) != beforeSet || paymentsText(wholePayments(payments)) != beforePayments {
				t.Fatal("something is written into what is handed in")
			}
		}
	}
	payments := roomyPayments(ts)
	checks(t, "roomy", roomy(cs), payments[0], 4, api.OK)
	checks(t, "roomy", roomy(cs), payments[1], 4, api.OK)
	checks(t, "roomy", roomy(cs), payments[2], 4, api.ErrNone)
	checks(t, "roomy", roomy(cs), payments[3], 2, api.ErrEarly)
	pays(t, "roomy, the last one first", roomy(cs), roomyPayments([]api.Tx{ts[3], ts[2], ts[1], ts[0]}), 4, api.ErrNone)
}

func spoilOut(o api.Out) {
	l := o.Lock[:cap(o.Lock)]
	for i := range l {
		data := l[i].Data[:cap(l[i].Data)]
		for j := range data {
			data[j] ^= 255
		}
		l[i] = api.Op{Op: 77, N: 77}
	}
}

// spoil changes all that there is in coins, and what lies between length and capacity, too.
func spoil(cs []api.Coin) {
	cs = cs[:cap(cs)]
	for i := range cs {
		spoilOut(cs[i].Out)
		cs[i] = api.Coin{Height: -77}
	}
}

func spoilPayments(ts []api.Tx) {
	for i, p := range ts {
		for j := range p.Outs {
			spoilOut(p.Outs[j])
			p.Outs[j] = out(-77)
		}
		for j := range p.Ins {
			for k := range p.Ins[j].Keys {
				p.Ins[j].Keys[k] = append(p.Ins[j].Keys[k], 77)
			}
			p.Ins[j] = api.In{}
		}
		ts[i] = api.Tx{Time: -77}
	}
}

// TestP2Fresh: the set shares nothing with what was handed in, or with what is told another time; of no payments, of one, and of several.
func TestP2Fresh(t *testing.T) {
	for n := range 5 {
		cs, ts := rich()
		ts = ts[:n]
		beforeSet, beforePayments := text(cs), paymentsText(ts)
		one, _, _ := All(cs, ts, 4)
		two, _, _ := All(cs, ts, 4)
		want := text(one)
		spoil(one)
		if text(cs) != beforeSet || paymentsText(ts) != beforePayments || text(two) != want {
			t.Errorf("%d payments: what All tells shares memory", n)
		}
		spoil(cs)
		spoilPayments(ts)
		if text(two) != want {
			t.Errorf("%d payments: what All tells changes with what was handed in", n)
		}
	}
}

// TestP2SharesNothing: no list of what is told changes with another one, nor with what is appended to it; also where what is handed in shares all.
func TestP2SharesNothing(t *testing.T) {
	data := []byte{1, 2, 3}
	l := []api.Op{{Op: api.Push, Data: data}, {Op: api.Push, Data: data}, {Op: api.Drop}, {Op: api.Drop}}
	cs := setOf(4, 10)
	for i := range cs {
		cs[i].Out.Lock = l
	}
	var ts []api.Tx
	for i := range 3 {
		p := spends(cs[i:i+1], 3, 4)
		p.Ins[0].Keys = [][]byte{data}
		p.Outs[0].Lock, p.Outs[1].Lock = l, l
		ts = append(ts, p)
	}
	for n := range 4 {
		set, _, err := All(cs, ts[:n], 4)
		if err != nil || len(set) != 4+n {
			t.Fatal(err, len(set))
		}
		apart(t, set)
	}
}

// apart holds that of the coins' lists, all of which are alike, each is by itself.
func apart(t *testing.T, cs []api.Coin) {
	t.Helper()
	for i, c := range cs {
		_ = append(c.Out.Lock, ops(99)...)
		others := slices.Concat(cs[:i], cs[i+1:])
		for j := range 2 {
			_ = append(c.Out.Lock[j].Data, 99)
			was := text(others)
			c.Out.Lock[j].Data[0] ^= 255
			c.Out.Lock[1-j].N++
			if text(others) != was || c.Out.Lock[1-j].Data[0] != 1 {
				t.Fatalf("lists of coin %d are shared", i)
			}
			c.Out.Lock[j].Data[0] ^= 255
			c.Out.Lock[1-j].N--
		}
	}
}

// TestP2KeepsNothing: what is told hangs on what is handed in alone, also behind errors.
func TestP2KeepsNothing(t *testing.T) {
	cs, ts := rich()
	want := pays(t, "payments", cs, ts, 4, api.OK)
	for range 2 {
		for _, f := range slices.Concat(wholeFaults(), payFaults()) {
			d := newDeed(2)
			f.make(d, 1)
			pays(t, f.name, d.set(), d.ts, d.height, f.want)
			if got, left, err := All(cs, ts, 4); err != nil || text(got) != text(want.set) || left != want.left {
				t.Fatalf("behind %s: got %s, %d, %v", f.name, brief(got), left, err)
			}
		}
	}
	cs[1].Out.Amount = 2
	pays(t, "payments, behind a change", cs, ts, 4, api.ErrMoney)
	cs[1].Out.Amount = 10
	ts[3].Ins[0].Keys[0][0]++
	pays(t, "payments, behind a change of keys", cs, ts, 4, api.ErrLock)
	ts[3].Ins[0].Keys[0][0]--
	pays(t, "payments, behind no change", cs, ts, 4, api.OK)
}
