package spend

import (
	"bytes"
	"slices"
	"testing"

	"moneyer/api"
	"moneyer/key"
	"moneyer/sha"
)

// trial is a lock, and what is to open it, or not: keys that may hang on the payment's ID, at a height.
type trial struct {
	name   string
	l      []api.Op
	keys   func(id api.Digest) [][]byte
	height int
	want   api.Errno
}

func seed(n byte) api.Digest { return api.Digest{0: n, 31: 9} }

func public(ns ...byte) []byte {
	var all []byte
	for _, n := range ns {
		k := key.Public(seed(n))
		all = append(all, k[:]...)
	}
	return all
}

// signed: what signs a payment by seeds, one behind the other.
func signed(ns ...byte) func(id api.Digest) [][]byte {
	return func(id api.Digest) [][]byte {
		var keys [][]byte
		for _, n := range ns {
			keys = append(keys, key.Sign(seed(n), id))
		}
		return keys
	}
}

// with: what signs a payment, and things on top of it.
func with(keys func(id api.Digest) [][]byte, more ...[]byte) func(id api.Digest) [][]byte {
	return func(id api.Digest) [][]byte { return append(keys(id), more...) }
}

// ofAnother: what signs another payment.
func ofAnother(keys func(id api.Digest) [][]byte) func(id api.Digest) [][]byte {
	return func(id api.Digest) [][]byte {
		id[13]++
		return keys(id)
	}
}

// hand: the same keys, whatever the payment is.
func hand(keys ...[]byte) func(id api.Digest) [][]byte {
	return func(api.Digest) [][]byte { return keys }
}

// trials: locks of every op, with what opens them, and with what does not.
func trials() []trial {
	yes, no, x, y := []byte{1}, []byte{}, []byte("x"), []byte("y")
	secret := []byte("the text that opens it")
	digest := sha.Sum(secret)
	known := ops(api.Hash, push(digest[:]...), api.Equal)
	mustKnow := ops(api.Hash, push(digest[:]...), api.Equal, api.Must, push(1))
	own := ops(push(public(1)...), api.Signed)
	two := ops(push(public(1, 2, 3)...), many(2))
	ways := ops(api.If, push(public(1)...), api.Signed, api.Else, after(9), push(public(2)...), api.Signed, api.End)
	most := slices.Repeat(ops(api.Not), 60)
	return []trial{
		{"no ops", nil, hand(yes), 4, api.OK},
		{"no ops, no key", nil, hand(), 4, api.ErrLock},
		{"no ops, what is not true", nil, hand([]byte{0, 0}), 4, api.ErrLock},
		{"no ops, one key too many", nil, hand(yes, yes), 4, api.ErrLock},
		{"Push", ops(push(7)), hand(), 4, api.OK},
		{"Push, one key too many", ops(push(7)), hand(yes), 4, api.ErrLock},
		{"Dup", ops(api.Dup, api.Equal), hand(no), 4, api.OK},
		{"Dup, no key", ops(api.Dup, api.Equal), hand(), 4, api.ErrLock},
		{"Drop", ops(api.Drop), hand(yes, no), 4, api.OK},
		{"Drop, in another order", ops(api.Drop), hand(no, yes), 4, api.ErrLock},
		{"Swap", ops(api.Swap, api.Drop), hand(no, yes), 4, api.OK},
		{"Swap, in another order", ops(api.Swap, api.Drop), hand(yes, no), 4, api.ErrLock},
		{"Equal", ops(push(120), api.Equal), hand(x), 4, api.OK},
		{"Equal, another key", ops(push(120), api.Equal), hand(y), 4, api.ErrLock},
		{"Must", ops(api.Must, push(1)), hand(yes), 4, api.OK},
		{"Must, what is not true", ops(api.Must, push(1)), hand(no), 4, api.ErrLock},
		{"Hash", known, hand(secret), 4, api.OK},
		{"Hash, another text", known, hand(secret[1:]), 4, api.ErrLock},
		{"Hash, no key", known, hand(), 4, api.ErrLock},
		{"Hash and Must", mustKnow, hand(secret), 4, api.OK},
		{"Hash and Must, another text", mustKnow, hand(x), 4, api.ErrLock},
		{"Signed", own, signed(1), 4, api.OK},
		{"Signed, by another one", own, signed(2), 4, api.ErrLock},
		{"Signed, another payment", own, ofAnother(signed(1)), 4, api.ErrLock},
		{"Signed, no key", own, hand(), 4, api.ErrLock},
		{"Signed, one key too many", own, with(signed(1), yes), 4, api.ErrLock},
		{"Signed, one key too many below", own, signed(1, 1), 4, api.ErrLock},
		{"Many", two, signed(1, 2), 4, api.OK},
		{"Many, others of them", two, signed(1, 3), 4, api.OK},
		{"Many, in another order", two, signed(2, 1), 4, api.ErrLock},
		{"Many, one of them", two, signed(3), 4, api.ErrLock},
		{"Many, all of them", two, signed(1, 2, 3), 4, api.ErrLock},
		{"Many, another payment", two, ofAnother(signed(2, 3)), 4, api.ErrLock},
		{"Many, one by another one", two, signed(1, 4), 4, api.ErrLock},
		{"After", ops(after(5)), hand(yes), 5, api.OK},
		{"After, later", ops(after(5)), hand(yes), 6, api.OK},
		{"After, too early", ops(after(5)), hand(yes), 4, api.ErrEarly},
		{"After, too early, no key", ops(after(5)), hand(), 4, api.ErrEarly},
		{"After, no key", ops(after(5)), hand(), 5, api.ErrLock},
		{"After 0", ops(after(0)), hand(yes), 0, api.OK},
		{"After all", ops(after(1 << 30)), hand(yes), 1 << 30, api.OK},
		{"After all, too early", ops(after(1 << 30)), hand(yes), 1<<30 - 1, api.ErrEarly},
		{"If", ways, with(signed(1), yes), 4, api.OK},
		{"If, by the other one", ways, with(signed(2), yes), 9, api.ErrLock},
		{"If, which way is not told", ways, signed(1), 4, api.ErrLock},
		{"Else", ways, with(signed(2), no), 9, api.OK},
		{"Else, by the other one", ways, with(signed(1), no), 9, api.ErrLock},
		{"Else, too early", ways, with(signed(2), no), 8, api.ErrEarly},
		{"Else, no key", ways, hand(), 9, api.ErrLock},
		{"Not", ops(api.Not), hand(no), 4, api.OK},
		{"Not, what is true", ops(api.Not), hand(yes), 4, api.ErrLock},
		{"60 ops", most, hand(yes), 4, api.OK},
		{"30 keys", slices.Repeat(ops(api.Drop), 29), hand(slices.Repeat([][]byte{yes}, 30)...), 4, api.OK},
		{"30 keys, and one at hand", ops(push(1)), hand(slices.Repeat([][]byte{yes}, 30)...), 4, api.ErrFull},
		{"a long key", nil, hand(bytes.Repeat(yes, 3000)), 4, api.OK},
		{"no key is asked for", ops(push()), hand(), 4, api.ErrLock},
	}
}

// opened: a payment with the keys of a trial to one of its Ins.
func opened(p api.Tx, in int, keys func(id api.Digest) [][]byte) api.Tx {
	p.Ins = slices.Clone(p.Ins)
	p.Ins[in].Keys = keys(at(p, 0).Tx)
	return p
}

// TestSP1Locks: each lock by itself, and at each of three Ins.
func TestSP1Locks(t *testing.T) {
	for _, k := range trials() {
		for ins := 1; ins <= 3; ins += 2 {
			for in := range ins {
				cs := setOf(50, 10)
				cs[20+in].Out.Lock = k.l
				p := opened(spends(cs[20:20+ins], 1, 2), in, k.keys)
				checks(t, k.name, cs, p, k.height, k.want)
			}
		}
	}
}

// TestSP2Locks: each lock of a coin that a payment of the list has made, at each of three places of the list.
func TestSP2Locks(t *testing.T) {
	for _, k := range trials() {
		cs := setOf(50, 10)
		maker := spends(cs[20:21], 4, 5)
		maker.Outs[1].Lock = k.l
		p := opened(then(maker, []int{1}, 3), 0, k.keys)
		one, other := spends(cs[30:31], 10), spends(cs[10:11], 9)
		pays(t, k.name, cs, []api.Tx{maker, p}, k.height, k.want)
		pays(t, k.name+", others between", cs, []api.Tx{maker, one, p, other}, k.height, k.want)
		pays(t, k.name+", others ahead", cs, []api.Tx{one, other, maker, p}, k.height, k.want)
		pays(t, k.name+", ahead of it", cs, []api.Tx{one, p, maker}, k.height, api.ErrNone)
	}
}

// TestSP1OwnID: what signs a payment hangs on all of it but its keys.
func TestSP1OwnID(t *testing.T) {
	cs := setOf(50, 10)
	cs[7].Out.Lock = ops(push(public(1)...), api.Signed)
	p := spends([]api.Coin{cs[3], cs[7]}, 4, 5)
	sig := signed(1)(at(p, 0).Tx)
	changed := func(change func(p *api.Tx)) api.Tx {
		p := spends([]api.Coin{cs[3], cs[7]}, 4, 5)
		p.Ins[1].Keys = sig
		change(&p)
		return p
	}
	same := func(*api.Tx) {}
	checks(t, "signed", cs, changed(same), 4, api.OK)
	cs[3].Out.Lock = nil
	checks(t, "other keys to another In, which are right", cs, changed(func(p *api.Tx) { p.Ins[0].Keys = [][]byte{{8, 9}} }), 4, api.OK)
	checks(t, "no keys to another In", cs, changed(func(p *api.Tx) { p.Ins[0].Keys = nil }), 4, api.ErrLock)
	for _, k := range []struct {
		name   string
		change func(p *api.Tx)
	}{
		{"another Amount", func(p *api.Tx) { p.Outs[0].Amount++ }},
		{"another lock", func(p *api.Tx) { p.Outs[1].Lock = nil }},
		{"one Out less", func(p *api.Tx) { p.Outs = p.Outs[:1] }},
		{"one Out more", func(p *api.Tx) { p.Outs = append(p.Outs, out(0)) }},
		{"another Time", func(p *api.Tx) { p.Time = 4 }},
		{"one In less", func(p *api.Tx) { p.Ins = p.Ins[1:] }},
		{"one In more", func(p *api.Tx) { p.Ins = append(p.Ins, spends(cs[40:41]).Ins...) }},
		{"another In", func(p *api.Tx) { p.Ins[0] = spends(cs[40:41]).Ins[0] }},
		{"the Ins in another order", func(p *api.Tx) { slices.Reverse(p.Ins) }},
		{"the Outs in another order", func(p *api.Tx) { slices.Reverse(p.Outs) }},
	} {
		checks(t, k.name, cs, changed(k.change), 4, api.ErrLock)
	}
	// Neither its height nor that of the coin is signed.
	cs[7].Height = 0
	checks(t, "another height", cs, changed(same), 1000, api.OK)
	sig = [][]byte{bytes.Clone(sig[0])}
	sig[0][2000] ^= 1
	checks(t, "one bit of what signs it", cs, changed(same), 4, api.ErrLock)
}

// TestSP1KeysOfIns: the keys of an In open the coin of that In, whatever the order is.
func TestSP1KeysOfIns(t *testing.T) {
	cs := setOf(50, 10)
	for _, order := range [][]int{{4, 17}, {17, 4}, {30, 2, 44}, {44, 2, 30}, {2, 44, 30}, {49, 0}} {
		var coins []api.Coin
		for _, i := range order {
			coins = append(coins, cs[i])
		}
		p := spends(coins, 5)
		checks(t, "in some order", cs, p, 4, api.OK)
		for i := range order {
			j := (i + 1) % len(order)
			p := spends(coins, 5)
			p.Ins[i].Keys, p.Ins[j].Keys = p.Ins[j].Keys, p.Ins[i].Keys
			checks(t, "those of two exchanged", cs, p, 4, api.ErrLock)
			p = spends(coins, 5)
			p.Ins[i].Keys = nil
			checks(t, "those of one missing", cs, p, 4, api.ErrLock)
			p = spends(coins, 5)
			p.Ins[i].Keys = slices.Repeat(p.Ins[i].Keys, 2)
			checks(t, "those of one twice", cs, p, 4, api.ErrLock)
		}
	}
	p := spends(cs[:40], 400)
	checks(t, "40 Ins", cs, p, 4, api.OK)
	for _, i := range []int{0, 1, 20, 38, 39} {
		p := spends(cs[:40], 400)
		p.Ins[i].Keys = [][]byte{{1}}
		checks(t, "40 Ins, one not opened", cs, p, 4, api.ErrLock)
	}
}

// TestSP1InByIn: of Ins that are not opened the first one is told.
func TestSP1InByIn(t *testing.T) {
	kinds := []struct {
		l    []api.Op
		keys [][]byte
		want api.Errno
	}{
		{nil, [][]byte{{1}}, api.OK},
		{nil, nil, api.ErrLock},
		{ops(after(9)), [][]byte{{1}}, api.ErrEarly},
		{ops(push(1)), make([][]byte, 30), api.ErrFull},
	}
	for i := range 4 * 4 * 4 {
		cs := setOf(50, 10)
		p := spends([]api.Coin{cs[33], cs[5], cs[21]}, 7)
		want := api.OK
		for in, kind := range []int{i % 4, i / 4 % 4, i / 16} {
			cs[[]int{33, 5, 21}[in]].Out.Lock = kinds[kind].l
			p.Ins[in].Keys = kinds[kind].keys
			if want == api.OK {
				want = kinds[kind].want
			}
		}
		checks(t, "three Ins", cs, p, 4, want)
	}
}
