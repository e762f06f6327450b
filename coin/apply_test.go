package coin

import (
	"crypto/sha256"
	"math"
	"slices"
	"testing"

	"moneyer/api"
	"moneyer/tx"
)

// TestCO23Known: a payment whose ID is worked out by hand, to a set of none and back.
func TestCO23Known(t *testing.T) {
	p := api.Tx{Outs: []api.Out{pay(7), pay(0)}, Time: 3}
	id := api.Digest(sha256.Sum256([]byte{21, 0, 2, 7, 0, 0, 0, 3}))
	want := []api.Coin{{Place: api.Place{Tx: id}, Out: pay(7), Height: 9}, {Place: api.Place{Tx: id, At: 1}, Height: 9}}
	got := applies(t, "no Ins", nil, p, 9, api.OK)
	if text(got.set) != text(want) || len(got.spent) != 0 || got.left != 0 {
		t.Errorf("no Ins: got %s, %s, %d, want %s", brief(got.set), brief(got.spent), got.left, brief(want))
	}
	next := api.Tx{Ins: []api.In{{From: want[0].Place}}, Outs: []api.Out{pay(5)}}
	raw := slices.Concat([]byte{21, 1}, id[:], []byte{0, 0, 1, 5, 0, 0})
	paid := api.Coin{Place: api.Place{Tx: sha256.Sum256(raw)}, Out: pay(5), Height: 10}
	got = applies(t, "one In", want, next, 10, api.OK)
	if text(got.set) != text(put(want[1:], paid)) || text(got.spent) != text(want[:1]) || got.left != 2 {
		t.Errorf("one In: got %s, %s, %d", brief(got.set), brief(got.spent), got.left)
	}
	if back := undoes(t, "one In, back", got.set, next, want[:1], api.OK); text(back) != text(want) {
		t.Errorf("one In, back: got %s, want %s", brief(back), brief(want))
	}
	if back := undoes(t, "no Ins, back", want, p, nil, api.OK); len(back) != 0 {
		t.Errorf("no Ins, back: got %s, want no coins", brief(back))
	}
}

// TestCO2NoIns: whatever it pays, nothing is left over.
func TestCO2NoIns(t *testing.T) {
	for _, cs := range [][]api.Coin{nil, {}, setOf(1, 9), setOf(50, 9), setOf(900, 0)} {
		for _, amounts := range [][]int{{0}, {1}, {5, 0, 3}, {api.MaxMoney}, {0, api.MaxMoney, 0}, {api.MaxMoney - 1, 1}, make([]int, 40)} {
			got := applies(t, "no Ins", cs, spends(nil, amounts...), 4, api.OK)
			if len(got.set) != len(cs)+len(amounts) || len(got.spent) != 0 || got.left != 0 {
				t.Errorf("no Ins: got %d coins, %d spent, %d left over", len(got.set), len(got.spent), got.left)
			}
		}
		p := spends(nil, 3)
		p.Ins = []api.In{}
		applies(t, "no Ins, not nil", cs, p, 4, api.OK)
	}
}

// TestCO2Spends: the first, the last, one between, several in every order, and every coin of a set.
func TestCO2Spends(t *testing.T) {
	for _, n := range []int{1, 2, 3, 4, 40} {
		cs := setOf(n, 10)
		for i := range cs {
			cs[i].Out.Amount += i
			cs[i].Height = i
		}
		for i := range cs {
			got := applies(t, "one", cs, spends(cs[i:i+1], 4, 5), 77, api.OK)
			if len(got.set) != n+1 || text(got.spent) != text(cs[i:i+1]) || got.left != 1+i {
				t.Errorf("coin %d of %d: got %d coins, %s, %d left over", i, n, len(got.set), brief(got.spent), got.left)
			}
			for j := range cs {
				if i != j {
					applies(t, "two", cs, spends([]api.Coin{cs[i], cs[j]}, 3), 77, api.OK)
				}
			}
		}
		all := applies(t, "every coin", cs, spends(cs, 10*n), 77, api.OK)
		if len(all.set) != 1 || text(all.spent) != text(cs) || all.left != n*(n-1)/2 {
			t.Errorf("every coin of %d: got %s, %d spent, %d left over", n, brief(all.set), len(all.spent), all.left)
		}
		back := slices.Clone(cs)
		slices.Reverse(back)
		all = applies(t, "every coin, the last one first", cs, spends(back, 10*n, 0), 77, api.OK)
		if text(all.spent) != text(back) {
			t.Errorf("every coin of %d, the last one first: got %s", n, brief(all.spent))
		}
	}
}

// TestCO2Order: outs that fall ahead of a set, behind it, and between, stand in order.
func TestCO2Order(t *testing.T) {
	cs := []api.Coin{coinAt(place(5, 0), 9), coinAt(place(60, 1), 9), coinAt(place(128, 0), 9), coinAt(place(250, 39), 9)}
	seen := map[int]int{}
	for n := range 200 {
		p := spends(nil, n, 1, 2)
		got := applies(t, "somewhere", cs, p, 4, api.OK)
		seen[otherAt(got.set, own(p, 0).Place)]++
		p = spends(cs[:2], 1, 2)
		p.Time = n
		applies(t, "somewhere, with Ins", cs, p, 4, api.OK)
	}
	for at := range 5 {
		if seen[at] == 0 {
			t.Errorf("no payment's outs fall at %d: the payments are no good", at)
		}
	}
}

func TestCO2Height(t *testing.T) {
	cs := setOf(3, 10)
	for _, p := range []api.Tx{spends(nil, 5), spends(cs[:1], 5), spends(cs, 1, 2)} {
		for _, height := range []int{0, 1, 5, 1<<30 - 1, 1 << 30} {
			got := applies(t, "a height", cs, p, height, api.OK)
			if at := otherAt(got.set, own(p, 0).Place); at < 0 || got.set[at].Height != height {
				t.Errorf("height %d: got %s", height, brief(got.set))
			}
		}
		for _, height := range []int{-1, -2, 1<<30 + 1, 1 << 32, math.MaxInt, math.MinInt} {
			applies(t, "no height", cs, p, height, api.ErrRange)
		}
		// A payment's own Time is not asked here.
		p.Time = 1000
		applies(t, "ahead of Time", cs, p, 0, api.OK)
	}
}

func TestCO2None(t *testing.T) {
	cs := setOf(45, 10)
	for i := range 4 {
		for _, gone := range []api.Place{place(7, 0), place(10, 5), place(10, 39), place(0, 0), {}, {Tx: api.Digest{0: 10}, At: 1}} {
			set := cs
			if at := otherAt(set, gone); at >= 0 {
				set = otherDrop(set, at)
			}
			p := spends(cs[30:34], 1)
			p.Ins[i].From = gone
			applies(t, "no coin is there", set, p, 4, api.ErrNone)
		}
	}
	applies(t, "no coins at all", nil, spends(cs[:1], 1), 4, api.ErrNone)
	p := spends(cs[:2], 1)
	first := applies(t, "once", cs, p, 4, api.OK)
	applies(t, "twice", first.set, p, 4, api.ErrNone)
	p.Ins[0].From = own(p, 0).Place
	applies(t, "what another one paid", cs, p, 4, api.ErrNone)
	applies(t, "what another one paid, behind it", first.set, api.Tx{Ins: p.Ins[:1], Outs: p.Outs}, 5, api.OK)
}

func TestCO2Money(t *testing.T) {
	most := api.MaxMoney
	known := []struct {
		name         string
		coins, outs  []int
		left         int
		want         api.Errno
		wantWithNone api.Errno // of the same outs, without Ins
	}{
		{"less", []int{9}, []int{5, 3}, 1, api.OK, api.OK},
		{"just as much", []int{9}, []int{5, 4}, 0, api.OK, api.OK},
		{"one more", []int{9}, []int{5, 5}, 0, api.ErrMoney, api.OK},
		{"of several", []int{1, 2, 3}, []int{6}, 0, api.OK, api.OK},
		{"of several, one more", []int{1, 2, 3}, []int{7}, 0, api.ErrMoney, api.OK},
		{"nothing", []int{0}, []int{0}, 0, api.OK, api.OK},
		{"nothing, one more", []int{0}, []int{0, 1}, 0, api.ErrMoney, api.OK},
		{"nothing paid", []int{7, 8}, []int{0}, 15, api.OK, api.OK},
		{"all there can be", []int{most}, []int{most}, 0, api.OK, api.OK},
		{"all there can be, less", []int{most}, []int{most - 1}, 1, api.OK, api.OK},
		{"all there can be of several", []int{most - 2, 2}, []int{1, most - 1}, 0, api.OK, api.OK},
		{"all there can be, nothing paid", []int{most - 2, 1, 1}, []int{0}, most, api.OK, api.OK},
		{"all there can be, one less there", []int{most - 1}, []int{most}, 0, api.ErrMoney, api.OK},
		{"spent are one above", []int{most, 1}, []int{5}, 0, api.ErrFull, api.OK},
		{"spent are one above, the small one first", []int{1, most}, []int{most}, 0, api.ErrFull, api.OK},
		{"spent are far above", []int{most, most, most}, []int{most}, 0, api.ErrFull, api.OK},
		{"outs are one above", []int{9}, []int{most, 1}, 0, api.ErrFull, api.ErrFull},
		{"outs are one above, the small one first", []int{most}, []int{1, most}, 0, api.ErrFull, api.ErrFull},
		{"outs are far above", []int{9}, []int{most, most, most}, 0, api.ErrFull, api.ErrFull},
		{"both are above", []int{most, 1}, []int{most, 1}, 0, api.ErrFull, api.ErrFull},
	}
	for _, k := range known {
		cs := setOf(len(k.coins)+2, 0)
		for i, n := range k.coins {
			cs[i+1].Out.Amount = n
		}
		got := applies(t, k.name, cs, spends(cs[1:len(k.coins)+1], k.outs...), 4, k.want)
		if got.left != k.left {
			t.Errorf("%s: got %d left over, want %d", k.name, got.left, k.left)
		}
		applies(t, k.name+", no Ins", cs, spends(nil, k.outs...), 4, k.wantWithNone)
	}
	// What is not spent is not asked: a set may be more than there can be.
	cs := setOf(1000, most)
	applies(t, "all of the set is too much", cs, spends(cs[:1], most), 4, api.OK)
	wide := slices.Repeat([]int{most}, 40)
	applies(t, "40 outs, each all there can be", setOf(3, 5), spends(setOf(1, 0), wide...), 4, api.ErrFull)
}

// TestCO2Twice: a coin at each of a payment's own places, and at those next to them, which are none.
func TestCO2Twice(t *testing.T) {
	cs := setOf(3, 10)
	for _, p := range []api.Tx{spends(nil, 5, 5, 5), spends(cs[:2], 5, 5, 5), spends(cs, make([]int, 40)...), spends(cs[2:], 10)} {
		for at := range 40 {
			want := api.OK
			if at < len(p.Outs) {
				want = api.ErrTwice
			}
			applies(t, "a coin is at an own place, or not", put(cs, own(p, at)), p, 4, want)
			same := own(p, at)
			if at < len(p.Outs) {
				same.Out, same.Height = p.Outs[at], 4
				applies(t, "the same coin is at an own place", put(cs, same), p, 4, api.ErrTwice)
			}
		}
		near := own(p, 0)
		near.Place.Tx[31]++
		applies(t, "a coin of another payment", put(cs, near), p, 4, api.OK)
	}
	p := spends(nil, 5)
	once := applies(t, "no Ins, once", cs, p, 4, api.OK)
	applies(t, "no Ins, twice", once.set, p, 5, api.ErrTwice)
	p.Time++
	applies(t, "no Ins, another Time", once.set, p, 5, api.OK)
}

// TestCO2MaxSet: sets that a payment fills, and one more.
func TestCO2MaxSet(t *testing.T) {
	for _, ins := range []int{0, 1, 2, 40} {
		for _, outs := range []int{1, 2, 40} {
			for _, n := range []int{959, 960, 961, 998, 999, 1000} {
				cs := setOf(n, 5)
				want := api.OK
				if n-ins+outs > 1000 {
					want = api.ErrFull
				}
				applies(t, "so many", cs, spends(cs[300:300+ins], make([]int, outs)...), 4, want)
			}
		}
	}
	cs := setOf(1000, 5)
	applies(t, "1000, one for one", cs, spends(cs[999:], 5), 4, api.OK)
	applies(t, "1000, one more", cs, spends(cs[999:], 5, 0), 4, api.ErrFull)
	applies(t, "1000, no Ins", cs, spends(nil, 5), 4, api.ErrFull)
}

// TestCO2Keys: whatever opens what is spent, the same is told.
func TestCO2Keys(t *testing.T) {
	cs := setOf(3, 10)
	p := spends(cs[:2], 7)
	want := applies(t, "keys", cs, p, 4, api.OK)
	for _, keys := range [][][]byte{nil, {}, {nil}, {{1, 2}, {3}}, make([][]byte, 30)} {
		p.Ins = slices.Clone(p.Ins)
		p.Ins[1].Keys = keys
		if got := applies(t, "other keys", cs, p, 4, api.OK); text(got.set) != text(want.set) {
			t.Errorf("other keys: got %s, want %s", brief(got.set), brief(want.set))
		}
	}
	p.Ins[1].Keys = make([][]byte, 31)
	applies(t, "too many keys", cs, p, 4, api.ErrFull)
}

// paymentFault is something that is wrong with a payment, of two Ins and two Outs.
type paymentFault struct {
	name string
	want api.Errno
	make func(p *api.Tx)
}

// paymentFaults: some of chapter 7, in the order in which they are to be told.
func paymentFaults() []paymentFault {
	return []paymentFault{
		{"41 ins", api.ErrFull, func(p *api.Tx) { p.Ins = make([]api.In, 41) }},
		{"no outs", api.ErrNone, func(p *api.Tx) { p.Outs = nil }},
		{"no Time", api.ErrRange, func(p *api.Tx) { p.Time = -1 }},
		{"an in's At", api.ErrRange, func(p *api.Tx) { p.Ins[1].From.At = 40 }},
		{"an in twice", api.ErrTwice, func(p *api.Tx) { p.Ins[1].From = p.Ins[0].From }},
		{"a long key", api.ErrFull, func(p *api.Tx) { p.Ins[1].Keys = [][]byte{make([]byte, 3001)} }},
		{"no amount", api.ErrRange, func(p *api.Tx) { p.Outs[0].Amount = -1 }},
		{"no lock", api.ErrSyntax, func(p *api.Tx) { p.Outs[0].Lock = []api.Op{op(0)} }},
	}
}

// deed is what Apply is to do, at last with coins at own places of the payment.
type deed struct {
	cs     []api.Coin
	p      api.Tx
	height int
	taken  []int
}

// set: that of a deed, with the coins at own places, if the payment is one.
func (d deed) set() []api.Coin {
	cs := d.cs
	if tx.Check(d.p) != nil {
		return cs
	}
	for _, at := range d.taken {
		cs = otherPut(cs, own(d.p, at))
	}
	return cs
}

// deedFault is something that is wrong with a deed.
type deedFault struct {
	name, of string // two faults of the same can not be there together
	want     api.Errno
	make     func(d *deed)
}

// deedFaults: in the order in which they are to be told.
func deedFaults() []deedFault {
	var all []deedFault
	for _, f := range setFaults() {
		all = append(all, deedFault{f.name, "set", f.want, func(d *deed) { d.cs = f.make(d.cs) }})
	}
	for _, f := range paymentFaults() {
		all = append(all, deedFault{f.name, "payment", f.want, func(d *deed) { f.make(&d.p) }})
	}
	return append(all,
		deedFault{"a height below", "height", api.ErrRange, func(d *deed) { d.height = -1 }},
		deedFault{"a height above", "height", api.ErrRange, func(d *deed) { d.height = api.MaxHeight + 1 }},
		deedFault{"in 0 is not there", "in", api.ErrNone, func(d *deed) { d.p.Ins[0].From = place(3, 3) }},
		deedFault{"in 1 is not there", "in", api.ErrNone, func(d *deed) { d.p.Ins[1].From = place(3, 3) }},
		deedFault{"too much is spent", "spent", api.ErrFull, func(d *deed) { d.cs[30].Out.Amount = api.MaxMoney }},
		deedFault{"too much is paid", "paid", api.ErrFull, func(d *deed) { d.p.Outs[1].Amount = api.MaxMoney }},
		deedFault{"more is paid than is spent", "paid", api.ErrMoney, func(d *deed) { d.p.Outs[1].Amount = 100 }},
		deedFault{"own place 0", "own", api.ErrTwice, func(d *deed) { d.taken = []int{0} }},
		deedFault{"own place 1", "own", api.ErrTwice, func(d *deed) { d.taken = []int{1} }},
		deedFault{"too many", "set", api.ErrFull, func(d *deed) {
			d.cs = slices.Concat(d.cs, setOf(999, 5)[len(d.cs):])
			d.p.Outs = append(d.p.Outs, pay(0), pay(0))
		}})
}

func newDeed() deed {
	cs := setOf(60, 5)
	return deed{cs: cs, p: spends([]api.Coin{cs[50], cs[30]}, 3, 4), height: 4}
}

// TestCO2FirstError: each fault by itself, and each two together, of which the one that is named first is told.
func TestCO2FirstError(t *testing.T) {
	d := newDeed()
	applies(t, "no fault", d.set(), d.p, d.height, api.OK)
	all := deedFaults()
	for i, first := range all {
		d := newDeed()
		first.make(&d)
		applies(t, first.name, d.set(), d.p, d.height, first.want)
		for _, second := range all[i+1:] {
			if first.of == second.of {
				continue
			}
			d := newDeed()
			second.make(&d)
			first.make(&d)
			applies(t, first.name+", "+second.name, d.set(), d.p, d.height, first.want)
		}
	}
}
