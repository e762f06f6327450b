package spend

import (
	"crypto/sha256"
	"math"
	"slices"
	"testing"

	"moneyer/api"
	"moneyer/key"
	"moneyer/plain"
	"moneyer/tx"
)

// TestSP12Known: payments whose IDs are worked out by hand: one that makes money, one that spends it by a signature, one that spends what that one has paid.
func TestSP12Known(t *testing.T) {
	mint := api.Tx{Outs: []api.Out{out(9, push(public(1)...), api.Op{Op: api.Signed})}}
	raw := slices.Concat([]byte{21, 0, 1, 9, 2, 1, 0, 32}, public(1), []byte{8, 0, 0, 0})
	first := api.Place{Tx: sha256.Sum256(raw)}
	raw = slices.Concat([]byte{21, 1}, first.Tx[:], []byte{0, 0, 2, 5, 0, 3, 0, 4})
	second := api.Digest(sha256.Sum256(raw))
	spend := api.Tx{Ins: []api.In{{From: first, Keys: [][]byte{key.Sign(seed(1), second)}}}, Outs: []api.Out{out(5), out(3)}, Time: 4}
	coins := []api.Coin{{Place: api.Place{Tx: second}, Out: out(5), Height: 4}, {Place: api.Place{Tx: second, At: 1}, Out: out(3), Height: 4}}
	last := api.Tx{Ins: []api.In{{From: coins[0].Place, Keys: [][]byte{{1}}}}, Outs: []api.Out{out(1)}}
	raw = slices.Concat([]byte{21, 1}, second[:], []byte{0, 0, 1, 1, 0, 0})
	paid := api.Coin{Place: api.Place{Tx: sha256.Sum256(raw)}, Out: out(1), Height: 4}

	got := checks(t, "what makes money", nil, mint, 4, api.OK)
	if text(got.set) != text([]api.Coin{{Place: first, Out: mint.Outs[0], Height: 4}}) || got.left != 0 {
		t.Errorf("what makes money: got %s, %d", brief(got.set), got.left)
	}
	behind := checks(t, "what spends it", got.set, spend, 4, api.OK)
	if text(behind.set) != text(coins) || behind.left != 1 {
		t.Errorf("what spends it: got %s, %d", brief(behind.set), behind.left)
	}
	checks(t, "what spends it, too early", got.set, spend, 3, api.ErrEarly)
	all := pays(t, "all three", nil, []api.Tx{mint, spend, last}, 4, api.OK)
	if text(all.set) != text(put(coins[1:], paid)) || all.left != 5 {
		t.Errorf("all three: got %s, %d", brief(all.set), all.left)
	}
	pays(t, "all three, too early", nil, []api.Tx{mint, spend, last}, 3, api.ErrEarly)
	spend.Ins[0].Keys = nil
	checks(t, "what spends it, no keys", got.set, spend, 4, api.ErrLock)
	pays(t, "all three, no keys to the second one", nil, []api.Tx{mint, spend, last}, 4, api.ErrLock)
}

// TestSP1Time: a payment's Time below the height, at it, and above, with Ins and without.
func TestSP1Time(t *testing.T) {
	cs := setOf(50, 10)
	for _, p := range []api.Tx{spends(cs[7:8], 5), spends(cs[7:10], 5, 6), spends(nil, 5)} {
		for _, time := range []int{0, 1, 2, 5, 1000, 1<<30 - 1, 1 << 30} {
			p.Time = time
			for _, height := range []int{0, 1, 2, 3, 5, time - 1000, time - 1, time, time + 1, time + 1000, 1<<30 - 1, 1 << 30} {
				want := api.OK
				switch {
				case height < 0 || height > 1<<30:
					want = api.ErrRange
				case time > height:
					want = api.ErrEarly
				}
				checks(t, "a Time", cs, p, height, want)
			}
		}
		for _, time := range []int{-1, 1<<30 + 1, math.MinInt, math.MaxInt} {
			p.Time = time
			checks(t, "no Time", cs, p, 4, api.ErrRange)
			checks(t, "no Time, no height", cs, p, time, api.ErrRange)
		}
	}
}

func TestSP1Height(t *testing.T) {
	cs := setOf(50, 10)
	for _, p := range []api.Tx{spends(cs[7:8], 5), spends(cs[7:10], 5, 6), spends(nil, 5)} {
		for _, height := range []int{0, 1, 1<<30 - 1, 1 << 30} {
			got := checks(t, "a height", cs, p, height, api.OK)
			i := slices.IndexFunc(got.set, func(c api.Coin) bool { return c.Place == at(p, 0) })
			if i < 0 || got.set[i].Height != height {
				t.Errorf("height %d: got %s", height, brief(got.set))
			}
		}
		for _, height := range []int{-1, -2, 1<<30 + 1, 1 << 32, math.MaxInt, math.MinInt} {
			checks(t, "no height", cs, p, height, api.ErrRange)
			// Whatever else there is about it that hangs on the height.
			p := p
			p.Time = 7
			checks(t, "no height, a Time", cs, p, height, api.ErrRange)
		}
	}
	// The height at which a coin came is not asked.
	for _, came := range []int{0, 4, 5, 1 << 30} {
		cs[7].Height = came
		checks(t, "a coin's own height", cs, spends(cs[7:8], 5), 4, api.OK)
	}
}

// TestSP1NoIns: nothing is to be opened, whatever is paid, and of the rest all is asked.
func TestSP1NoIns(t *testing.T) {
	most := api.MaxMoney
	for _, cs := range [][]api.Coin{nil, {}, setOf(1, 9), setOf(50, 9), setOf(960, 0)} {
		for _, amounts := range [][]int{{0}, {1}, {5, 0, 3}, {most}, {0, most, 0}, {most - 1, 1}, make([]int, 40)} {
			p := spends(nil, amounts...)
			got := checks(t, "no Ins", cs, p, 4, api.OK)
			if len(got.set) != len(cs)+len(amounts) || got.left != 0 {
				t.Errorf("no Ins: got %d coins, %d left over", len(got.set), got.left)
			}
			checks(t, "no Ins, done once more", got.set, p, 4, api.ErrTwice)
			p.Ins = []api.In{}
			checks(t, "no Ins, not nil", cs, p, 4, api.OK)
			p.Time = 5
			checks(t, "no Ins, too early", cs, p, 4, api.ErrEarly)
		}
		checks(t, "no Ins, above all there can be", cs, spends(nil, most, 1), 4, api.ErrFull)
		checks(t, "no Ins, no Outs", cs, api.Tx{}, 4, api.ErrNone)
	}
	checks(t, "no Ins, what it pays is locked for good", setOf(3, 1), api.Tx{Outs: []api.Out{out(7, push())}}, 4, api.OK)
	checks(t, "no Ins, too many", setOf(1000, 0), spends(nil, 1), 4, api.ErrFull)
}

// TestSP1OwnLocks: the locks of what is paid are not opened, but those of what is spent.
func TestSP1OwnLocks(t *testing.T) {
	cs := setOf(50, 10)
	p := spends(cs[7:8], 5, 5)
	p.Outs[0].Lock, p.Outs[1].Lock = ops(push()), ops(after(1000))
	checks(t, "what is paid can not be opened", cs, p, 4, api.OK)
	cs[7].Out.Lock = ops(push())
	checks(t, "what is spent can not be opened", cs, p, 4, api.ErrLock)
	cs[7].Out.Lock = ops(after(1000))
	checks(t, "what is spent can not be opened yet", cs, p, 4, api.ErrEarly)
	checks(t, "what is spent can be opened", cs, p, 1000, api.OK)
	for i := range cs {
		cs[i].Out.Lock = ops(push())
	}
	cs[7].Out.Lock = nil
	checks(t, "what is not spent can not be opened", cs, p, 4, api.OK)
}

// deed is what a list of payments is to do, at last with coins at own places of some of them.
type deed struct {
	cs     []api.Coin
	ts     []api.Tx
	height int
	taken  [][2]int // of which payment, and where
}

// newDeed: payments that do not hang on each other, each one of two Ins and two Outs, at height 4.
func newDeed(n int) *deed {
	d := &deed{cs: setOf(60, 5), height: 4}
	for i := range n {
		d.ts = append(d.ts, spends([]api.Coin{d.cs[first(i)], d.cs[second(i)]}, 3, 4))
	}
	return d
}

// first and second: which coins a payment of a deed spends.
func first(i int) int  { return 50 - i }
func second(i int) int { return 30 + i }

// set: that of a deed, with the coins at own places, if the payment is one.
func (d *deed) set() []api.Coin {
	cs := d.cs
	for _, own := range d.taken {
		if p := d.ts[own[0]]; tx.Check(p) == nil {
			cs = put(cs, api.Coin{Place: at(p, own[1]), Out: out(3), Height: 1})
		}
	}
	return cs
}

// fault is something that is wrong with a payment of a deed, or with all of it.
type fault struct {
	name, of string // two faults of the same can not be there together
	want     api.Errno
	make     func(d *deed, i int)
}

// paymentFault: something that is wrong with a payment by itself.
func paymentFault(name, of string, want api.Errno, change func(p *api.Tx)) fault {
	return fault{name, of, want, func(d *deed, i int) { change(&d.ts[i]) }}
}

// wholeFaults: what is wrong with the set, in the order in which it is to be told.
func wholeFaults() []fault {
	return []fault{
		{"too many coins", "set", api.ErrFull, func(d *deed, i int) { d.cs = setOf(1001, 5) }},
		{"a coin twice", "place", api.ErrTwice, func(d *deed, i int) { d.cs[1].Place = d.cs[0].Place }},
		{"a coin's At", "place", api.ErrRange, func(d *deed, i int) { d.cs[1].Place.At = 40 }},
		{"a coin's Height", "height of a coin", api.ErrRange, func(d *deed, i int) { d.cs[1].Height = -1 }},
		{"a coin's Amount", "amount of a coin", api.ErrRange, func(d *deed, i int) { d.cs[1].Out.Amount = -1 }},
		{"a coin's lock", "lock of a coin", api.ErrSyntax, func(d *deed, i int) { d.cs[1].Out.Lock = ops(0) }},
	}
}

// payFaults: what is wrong with one of the payments, or with the height, in the order in which it is to be told.
func payFaults() []fault {
	return []fault{
		paymentFault("41 Ins", "count of Ins", api.ErrFull, func(p *api.Tx) { p.Ins = make([]api.In, 41) }),
		paymentFault("no Outs", "count of Outs", api.ErrNone, func(p *api.Tx) { p.Outs = nil }),
		paymentFault("no Time", "Time", api.ErrRange, func(p *api.Tx) { p.Time = -1 }),
		paymentFault("an In's At", "in", api.ErrRange, func(p *api.Tx) { p.Ins[1].From.At = 40 }),
		paymentFault("an In twice", "in", api.ErrTwice, func(p *api.Tx) { p.Ins[1].From = p.Ins[0].From }),
		paymentFault("31 keys", "keys", api.ErrFull, func(p *api.Tx) { p.Ins[1].Keys = make([][]byte, 31) }),
		paymentFault("a long key", "keys", api.ErrFull, func(p *api.Tx) { p.Ins[1].Keys = [][]byte{make([]byte, 3001)} }),
		paymentFault("no Amount", "paid", api.ErrRange, func(p *api.Tx) { p.Outs[1].Amount = -1 }),
		paymentFault("no lock", "lock", api.ErrSyntax, func(p *api.Tx) { p.Outs[1].Lock = ops(0) }),
		{"a height below", "height", api.ErrRange, func(d *deed, i int) { d.height = -1 }},
		{"a height above", "height", api.ErrRange, func(d *deed, i int) { d.height = api.MaxHeight + 1 }},
		paymentFault("In 0 is not there", "in", api.ErrNone, func(p *api.Tx) { p.Ins[0].From = place(3, 3) }),
		paymentFault("In 1 is not there", "in", api.ErrNone, func(p *api.Tx) { p.Ins[1].From = place(3, 3) }),
		{"too much is spent", "spent", api.ErrFull, func(d *deed, i int) { d.cs[second(i)].Out.Amount = api.MaxMoney }},
		paymentFault("too much is paid", "paid", api.ErrFull, func(p *api.Tx) { p.Outs[1].Amount = api.MaxMoney }),
		paymentFault("more is paid than is spent", "paid", api.ErrMoney, func(p *api.Tx) { p.Outs[1].Amount = 100 }),
		{"own place 0", "own", api.ErrTwice, func(d *deed, i int) { d.taken = append(d.taken, [2]int{i, 0}) }},
		{"own place 1", "own", api.ErrTwice, func(d *deed, i int) { d.taken = append(d.taken, [2]int{i, 1}) }},
		{"too many", "set", api.ErrFull, func(d *deed, i int) {
			d.cs = slices.Concat(d.cs, setOf(999, 5)[len(d.cs):])
			d.ts[i].Outs = append(d.ts[i].Outs, out(0), out(0))
		}},
		paymentFault("a Time above", "Time", api.ErrEarly, func(p *api.Tx) { p.Time = 5 }),
		paymentFault("In 0 without keys", "lock 0", api.ErrLock, func(p *api.Tx) { p.Ins[0].Keys = nil }),
		{"In 0 too early", "lock 0", api.ErrEarly, func(d *deed, i int) { d.cs[first(i)].Out.Lock = ops(after(5)) }},
		{"In 0 too full", "lock 0", api.ErrFull, func(d *deed, i int) { d.cs[first(i)].Out.Lock = slices.Repeat(ops(push()), 30) }},
		paymentFault("In 1 without keys", "lock 1", api.ErrLock, func(p *api.Tx) { p.Ins[1].Keys = nil }),
		{"In 1 too early", "lock 1", api.ErrEarly, func(d *deed, i int) { d.cs[second(i)].Out.Lock = ops(after(5)) }},
		{"In 1 too full", "lock 1", api.ErrFull, func(d *deed, i int) { d.cs[second(i)].Out.Lock = slices.Repeat(ops(push()), 30) }},
	}
}

// TestSP1FirstError: each fault by itself, and each two together, of which the one that is named first is told.
func TestSP1FirstError(t *testing.T) {
	d := newDeed(1)
	checks(t, "no fault", d.set(), d.ts[0], d.height, api.OK)
	all := slices.Concat(wholeFaults(), payFaults())
	for i, first := range all {
		d := newDeed(1)
		first.make(d, 0)
		checks(t, first.name, d.set(), d.ts[0], d.height, first.want)
		for _, second := range all[i+1:] {
			if first.of == second.of {
				continue
			}
			d := newDeed(1)
			second.make(d, 0)
			first.make(d, 0)
			checks(t, first.name+", "+second.name, d.set(), d.ts[0], d.height, first.want)
		}
	}
}

// TestSP1Errno: what is told is one of the numbers, as it is, or nil.
func TestSP1Errno(t *testing.T) {
	for _, f := range slices.Concat(wholeFaults(), payFaults()) {
		d := newDeed(2)
		f.make(d, 0)
		err := Check(d.set(), d.ts[0], d.height)
		if err == nil || err == error(api.OK) || plain.Told(err) != f.want {
			t.Errorf("%s: Check tells %v", f.name, err)
		}
		set, left, err := All(d.set(), d.ts, d.height)
		if err == nil || err == error(api.OK) || set != nil || left != 0 {
			t.Errorf("%s: All tells %d coins, %d, %v", f.name, len(set), left, err)
		}
	}
}
