package coin

import (
	"slices"
	"testing"

	"moneyer/api"
	"moneyer/tx"
)

// undo is what Undo is to do, with a set in which the coins of the payment's outs are put at last.
type undo struct {
	cs     []api.Coin
	p      api.Tx
	spent  []api.Coin
	change func(own []api.Coin) []api.Coin // of the coins of the payment's outs
}

// newUndo: two coins were spent, the second one of which stands ahead of the first.
func newUndo() undo {
	cs := setOf(60, 5)
	spent := []api.Coin{cs[50], cs[30]}
	p := spends(spent, 3, 4)
	return undo{cs: otherDrop(otherDrop(cs, 50), 30), p: p, spent: copied(spent)}
}

// set: that of an undo, with the coins of the outs, if the payment is one.
func (u undo) set() []api.Coin {
	if tx.Check(u.p) != nil {
		return u.cs
	}
	own := otherOwn(u.p, 6)
	if u.change != nil {
		own = u.change(copied(own))
	}
	return put(u.cs, own...)
}

// changed: an undo's Undo, with some of it changed.
func changed(t *testing.T, name string, want api.Errno, with func(u *undo)) {
	t.Helper()
	u := newUndo()
	with(&u)
	undoes(t, name, u.set(), u.p, u.spent, want)
}

func TestCO3Known(t *testing.T) {
	u := newUndo()
	back := undoes(t, "two Ins, two Outs", u.set(), u.p, u.spent, api.OK)
	if text(back) != text(setOf(60, 5)) {
		t.Errorf("two Ins, two Outs: got %s, want all coins that were there", brief(back))
	}
	p := spends(nil, 7, 8)
	back = undoes(t, "no Ins", put(setOf(9, 5), otherOwn(p, 3)...), p, nil, api.OK)
	if text(back) != text(setOf(9, 5)) {
		t.Errorf("no Ins: got %s, want all coins that were there", brief(back))
	}
	undoes(t, "no Ins, spent not nil", put(nil, otherOwn(p, 3)...), p, []api.Coin{}, api.OK)
	undoes(t, "no coins at all", nil, p, nil, api.ErrNone)
	undoes(t, "undone twice", setOf(9, 5), p, nil, api.ErrNone)
}

// TestCO3Height: an out may have come at any height, as long as it is one, and each at another.
func TestCO3Height(t *testing.T) {
	for at := range 2 {
		for _, height := range []int{0, 1, 6, 1<<30 - 1, 1 << 30} {
			changed(t, "a height", api.OK, func(u *undo) {
				u.change = func(own []api.Coin) []api.Coin { own[at].Height = height; return own }
			})
		}
		for _, height := range []int{-1, 1<<30 + 1} {
			changed(t, "no height", api.ErrRange, func(u *undo) {
				u.change = func(own []api.Coin) []api.Coin { own[at].Height = height; return own }
			})
		}
	}
	for i := range 2 {
		for _, height := range []int{0, 1 << 30} {
			changed(t, "a height of what was spent", api.OK, func(u *undo) { u.spent[i].Height = height })
		}
		for _, height := range []int{-1, 1<<30 + 1} {
			changed(t, "no height of what was spent", api.ErrRange, func(u *undo) { u.spent[i].Height = height })
		}
	}
}

// TestCO3None: an out that is gone, or another one in anything but its height.
func TestCO3None(t *testing.T) {
	outs := func(p *api.Tx) {
		for i := range p.Outs {
			p.Outs[i].Lock = []api.Op{push(1, 2), many(2), op(api.Dup)}
		}
	}
	changes := map[string]func(c *api.Coin){
		"more":             func(c *api.Coin) { c.Out.Amount++ },
		"less":             func(c *api.Coin) { c.Out.Amount-- },
		"nothing":          func(c *api.Coin) { c.Out.Amount = 0 },
		"another op":       func(c *api.Coin) { c.Out.Lock[2].Op = api.Drop },
		"another N":        func(c *api.Coin) { c.Out.Lock[1].N = 3 },
		"other Data":       func(c *api.Coin) { c.Out.Lock[0].Data[1] ^= 1 },
		"less Data":        func(c *api.Coin) { c.Out.Lock[0].Data = c.Out.Lock[0].Data[:1] },
		"more Data":        func(c *api.Coin) { c.Out.Lock[0].Data = []byte{1, 2, 0} },
		"no Data":          func(c *api.Coin) { c.Out.Lock[0].Data = nil },
		"an op less":       func(c *api.Coin) { c.Out.Lock = c.Out.Lock[:2] },
		"an op more":       func(c *api.Coin) { c.Out.Lock = append(c.Out.Lock, op(api.Dup)) },
		"no ops":           func(c *api.Coin) { c.Out.Lock = nil },
		"ops turned round": func(c *api.Coin) { slices.Reverse(c.Out.Lock) },
		"another place":    func(c *api.Coin) { c.Place.At = 9 },
		"another payment":  func(c *api.Coin) { c.Place.Tx[7]++ },
	}
	for at := range 2 {
		for name, change := range changes {
			changed(t, name, api.ErrNone, func(u *undo) {
				outs(&u.p)
				u.change = func(own []api.Coin) []api.Coin { change(&own[at]); return own }
			})
		}
		changed(t, "one gone", api.ErrNone, func(u *undo) {
			u.change = func(own []api.Coin) []api.Coin { return otherDrop(own, at) }
		})
	}
	changed(t, "all gone", api.ErrNone, func(u *undo) {
		u.change = func(own []api.Coin) []api.Coin { return nil }
	})
	changed(t, "turned round", api.ErrNone, func(u *undo) {
		u.change = func(own []api.Coin) []api.Coin { own[0].Out, own[1].Out = own[1].Out, own[0].Out; return own }
	})
	changed(t, "another one behind them", api.OK, func(u *undo) {
		u.cs = put(u.cs, own(u.p, 2), own(u.p, 39))
	})
	for _, data := range [][]byte{nil, {}} {
		// An empty list and nil are the same.
		changed(t, "no Data, nil or not", api.OK, func(u *undo) {
			u.p.Outs[0].Lock = []api.Op{{Op: api.Push, Data: []byte{}}, {Op: api.Push}}
			u.p.Outs[1].Lock = []api.Op{}
			u.change = func(own []api.Coin) []api.Coin {
				own[0].Out.Lock[0].Data, own[0].Out.Lock[1].Data, own[1].Out.Lock = data, data, nil
				return own
			}
		})
	}
}

func TestCO3Length(t *testing.T) {
	changed(t, "none", api.ErrLength, func(u *undo) { u.spent = nil })
	changed(t, "one less", api.ErrLength, func(u *undo) { u.spent = u.spent[:1] })
	changed(t, "the first one left out", api.ErrLength, func(u *undo) { u.spent = u.spent[1:] })
	changed(t, "one more", api.ErrLength, func(u *undo) { u.spent = append(u.spent, coinAt(place(3, 3), 1)) })
	changed(t, "one twice", api.ErrLength, func(u *undo) { u.spent = append(u.spent, u.spent[1]) })
	changed(t, "very many", api.ErrLength, func(u *undo) { u.spent = setOf(2000, 1) })
	p := spends(nil, 7)
	undoes(t, "one, of no Ins", otherOwn(p, 3), p, setOf(1, 5), api.ErrLength)
}

func TestCO3Fork(t *testing.T) {
	for i := range 2 {
		for name, p := range map[string]api.Place{"another payment": place(3, 3), "the least": {}, "no At": {At: 40}, "one that is there": place(0, 0)} {
			changed(t, name, api.ErrFork, func(u *undo) { u.spent[i].Place = p })
		}
		changed(t, "another At", api.ErrFork, func(u *undo) { u.spent[i].Place.At++ })
		changed(t, "one byte is not the same", api.ErrFork, func(u *undo) { u.spent[i].Place.Tx[15] ^= 128 })
		changed(t, "the one twice", api.ErrFork, func(u *undo) { u.spent[1-i] = u.spent[i] })
		changed(t, "an own place", api.ErrFork, func(u *undo) { u.spent[i].Place = own(u.p, 0).Place })
	}
	changed(t, "turned round", api.ErrFork, func(u *undo) { slices.Reverse(u.spent) })
}

func TestCO3Twice(t *testing.T) {
	for i := range 2 {
		changed(t, "one is there", api.ErrTwice, func(u *undo) { u.cs = put(u.cs, u.spent[i]) })
		changed(t, "another one is there", api.ErrTwice, func(u *undo) { u.cs = put(u.cs, coinAt(u.spent[i].Place, 77)) })
	}
	changed(t, "both are there", api.ErrTwice, func(u *undo) { u.cs = put(u.cs, u.spent...) })
	p := spends(setOf(1, 5), 5)
	undoes(t, "it was not done", setOf(1, 5), p, setOf(1, 5), api.ErrNone)
}

// TestCO3WouldBe: what there would be is looked at as a set is, coin by coin in its order.
func TestCO3WouldBe(t *testing.T) {
	known := []struct {
		name string
		want api.Errno
		make func(c *api.Coin)
	}{
		{"no Height", api.ErrRange, func(c *api.Coin) { c.Height = api.MaxHeight + 1 }},
		{"a negative Height", api.ErrRange, func(c *api.Coin) { c.Height = -1 }},
		{"no Amount", api.ErrRange, func(c *api.Coin) { c.Out.Amount = -1 }},
		{"too great an Amount", api.ErrRange, func(c *api.Coin) { c.Out.Amount = api.MaxMoney + 1 }},
		{"no lock", api.ErrSyntax, func(c *api.Coin) { c.Out.Lock = []api.Op{op(0)} }},
		{"a long lock", api.ErrFull, func(c *api.Coin) { c.Out.Lock = make([]api.Op, 61) }},
		{"no Height, no lock", api.ErrRange, func(c *api.Coin) { c.Height, c.Out.Lock = -1, []api.Op{op(0)} }},
	}
	for _, k := range known {
		for i := range 2 {
			changed(t, k.name, k.want, func(u *undo) { k.make(&u.spent[i]) })
		}
	}
	changed(t, "other Outs than were spent", api.OK, func(u *undo) { u.spent[0].Out, u.spent[1].Out = pay(0), pay(api.MaxMoney, many(9)) })
	changed(t, "two, the later one in the set first", api.ErrSyntax, func(u *undo) {
		u.spent[0].Height = -1                   // coin 50
		u.spent[1].Out.Lock = []api.Op{op(0)}    // coin 30
		u.spent[1].Out.Amount = api.MaxMoney - 1 // which is one
	})
	changed(t, "two, the later one in the set last", api.ErrRange, func(u *undo) {
		u.spent[0].Out.Lock = []api.Op{op(0)}
		u.spent[1].Out.Amount = -1
	})
	changed(t, "very long", api.ErrFull, func(u *undo) { u.spent[0].Out.Lock = make([]api.Op, 1<<20) })
}

// TestCO3MaxSet: sets that are full when a payment is undone, and one more.
func TestCO3MaxSet(t *testing.T) {
	for _, ins := range []int{0, 1, 2, 40} {
		for _, outs := range []int{1, 2, 40} {
			for n := 960 - outs; n <= 1000-outs; n++ {
				if n%10 != 0 && n+ins < 999 && n+outs < 999 {
					continue
				}
				all := setOf(n+ins, 5)
				spent := all[100 : 100+ins]
				p := spends(spent, make([]int, outs)...)
				cs := put(slices.Concat(all[:100], all[100+ins:]), otherOwn(p, 3)...)
				want := api.OK
				if n+ins > 1000 {
					want = api.ErrFull
				}
				undoes(t, "so many", cs, p, spent, want)
			}
		}
	}
}

// undoFault is something that is wrong with an undo.
type undoFault struct {
	name, of string // two faults of the same can not be there together
	want     api.Errno
	make     func(u *undo)
}

// undoFaults: in the order in which they are to be told.
func undoFaults() []undoFault {
	var all []undoFault
	for _, f := range setFaults() {
		all = append(all, undoFault{f.name, "set", f.want, func(u *undo) { u.cs = f.make(u.cs) }})
	}
	for _, f := range paymentFaults() {
		all = append(all, undoFault{f.name, "payment", f.want, func(u *undo) { f.make(&u.p) }})
	}
	all = append(all,
		undoFault{"out 0 is gone", "outs", api.ErrNone, func(u *undo) {
			u.change = func(own []api.Coin) []api.Coin { return own[1:] }
		}},
		undoFault{"out 1 is another one", "outs", api.ErrNone, func(u *undo) {
			u.change = func(own []api.Coin) []api.Coin { own[1].Out.Amount++; return own }
		}},
		undoFault{"one more was spent", "spent", api.ErrLength, func(u *undo) { u.spent = append(u.spent, u.spent[0]) }},
		undoFault{"one less was spent", "spent", api.ErrLength, func(u *undo) { u.spent = u.spent[:1] }})
	for i, name := range []string{"spent 0", "spent 1"} {
		all = append(all,
			undoFault{name + " is not of its place", name, api.ErrFork, func(u *undo) { u.spent[i].Place = place(3, 3) }},
			// At the place of the In, as that of the coin may be another one by then.
			undoFault{name + " is there", "there", api.ErrTwice, func(u *undo) {
				u.cs = put(u.cs[:len(u.cs)-1], coinAt(newUndo().spent[i].Place, 5))
			}})
	}
	return append(all,
		undoFault{"too many", "set", api.ErrFull, func(u *undo) {
			// With the two outs the set is full; three come for them.
			more := coinAt(place(77, 0), 5)
			u.p.Ins = append(u.p.Ins, api.In{From: more.Place})
			u.spent = append(u.spent, more)
			u.cs = slices.Concat(u.cs, setOf(1000, 5)[60:])
		}},
		undoFault{"spent 0 Height", "spent 0 numbers", api.ErrRange, func(u *undo) { u.spent[0].Height = -1 }})
}

// TestCO3FirstError: each fault by itself, and each two together, of which the one that is named first is told.
func TestCO3FirstError(t *testing.T) {
	all := undoFaults()
	for i, first := range all {
		changed(t, first.name, first.want, first.make)
		for _, second := range all[i+1:] {
			if first.of == second.of {
				continue
			}
			changed(t, first.name+", "+second.name, first.want, func(u *undo) {
				second.make(u)
				first.make(u)
			})
		}
	}
	changed(t, "the first one is there, the second one not of its place", api.ErrTwice, func(u *undo) {
		u.cs = put(u.cs, u.spent[0])
		u.spent[1].Place = place(3, 3)
	})
	changed(t, "the first one not of its place, the second one there", api.ErrFork, func(u *undo) {
		u.cs = put(u.cs, u.spent[1])
		u.spent[0].Place = place(3, 3)
	})
	changed(t, "not of its place, but of one that is there", api.ErrFork, func(u *undo) { u.spent[0].Place = u.cs[0].Place })
}
