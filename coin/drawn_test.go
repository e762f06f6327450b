package coin

import (
	"bytes"
	"math/rand"
	"slices"
	"testing"

	"moneyer/api"
)

// done is a payment that was done to a set, and what was spent by it.
type done struct {
	before []api.Coin
	p      api.Tx
	spent  []api.Coin
}

// drawnPayment: a payment drawn by lot, with which something may be wrong; below tells a number that is below another one.
func drawnPayment(cs []api.Coin, below func(int) int) api.Tx {
	odd := func(ordinary int, wrong ...int) int {
		if below(40) == 0 {
			return wrong[below(len(wrong))]
		}
		return ordinary
	}
	p := api.Tx{Time: odd(below(9), -1)}
	had := 0
	for range min(odd(below(4), 0, 5, 41), 41) {
		in := api.In{From: place(byte(below(256)), odd(below(40), 40))}
		if len(cs) > 0 && below(30) > 0 {
			c := cs[below(len(cs))]
			in.From = c.Place
			had += c.Out.Amount
		}
		isTwice := slices.ContainsFunc(p.Ins, func(other api.In) bool { return other.From == in.From })
		if !isTwice || below(20) == 0 {
			p.Ins = append(p.Ins, in)
		}
	}
	for range odd(1+below(4), 0, 40, 41) {
		n := below(max(had/3, 20))
		p.Outs = append(p.Outs, pay(odd(n, had, had+1, -1, api.MaxMoney-n, api.MaxMoney), push(byte(below(256)))))
	}
	if len(p.Outs) > 0 && below(40) == 0 {
		p.Outs[0].Lock = []api.Op{op(below(20))}
	}
	return p
}

// holdsDrawn: payments drawn by lot are done to a set, one behind the other, or not; at last those that were are undone.
func holdsDrawn(t *testing.T, rounds int, below func(int) int, told map[api.Errno]int) {
	var cs []api.Coin
	var all []done
	for range rounds {
		p := drawnPayment(cs, below)
		if len(all) > 0 && below(15) == 0 {
			p = all[below(len(all))].p // done a second time
		}
		height := below(100)
		if below(40) == 0 {
			height = -1
		}
		want := otherApply(cs, p, height).wrong
		told[want]++
		got := applies(t, "drawn", cs, p, height, want)
		if want == api.OK {
			all = append(all, done{cs, p, got.spent})
			cs = got.set
		}
		if t.Failed() {
			t.Fatalf("%d coins, %.300s, %d", len(cs), paymentText(p), height)
		}
	}
	slices.Reverse(all)
	for i, d := range all {
		other := all[below(len(all))]
		_, want := otherUndo(cs, other.p, other.spent)
		undoes(t, "drawn, of another one", cs, other.p, other.spent, want)
		spent := copied(d.spent)
		if len(spent) > 0 {
			at := below(len(spent))
			spent[at].Place.At = below(40)
			spent[at].Height = below(9) - 1
			_, want = otherUndo(cs, d.p, spent)
			undoes(t, "drawn, with what was spent changed", cs, d.p, spent, want)
		}
		cs = undoes(t, "drawn", cs, d.p, d.spent, api.OK)
		if text(cs) != text(d.before) {
			t.Fatalf("undone %d payments: got %s, want %s", i+1, brief(cs), brief(d.before))
		}
	}
}

// TestCO23Drawn: payments drawn by lot, always the same ones.
func TestCO23Drawn(t *testing.T) {
	lot := rand.New(rand.NewSource(8))
	times := 12
	if testing.Short() {
		times = 3
	}
	told := map[api.Errno]int{}
	for range times {
		holdsDrawn(t, 250, lot.Intn, told)
	}
	for _, e := range []api.Errno{api.OK, api.ErrSyntax, api.ErrRange, api.ErrFull, api.ErrNone, api.ErrTwice, api.ErrMoney} {
		if told[e] < times {
			t.Errorf("%v is told only %d times: the lot is no good", e, told[e])
		}
	}
}

// TestCO1Drawn: sets drawn by lot, some of them none, and each place in and about them.
func TestCO1Drawn(t *testing.T) {
	lot := rand.New(rand.NewSource(9))
	told := map[api.Errno]int{}
	for range 3000 {
		var cs []api.Coin
		for range lot.Intn(12) {
			cs = put(cs, coinAt(place(byte(lot.Intn(4)), lot.Intn(12)), lot.Intn(9)))
		}
		if len(cs) > 1 && lot.Intn(6) == 0 {
			i, j := lot.Intn(len(cs)), lot.Intn(len(cs))
			cs[i], cs[j] = cs[j], cs[i]
		}
		want := otherCheck(cs)
		told[want]++
		checks(t, "drawn", cs, want)
		for range 5 {
			p := place(byte(lot.Intn(5)), lot.Intn(13)-1)
			wrong := firstOf([]wrong{{want != api.OK, want}, {otherAt(cs, p) < 0, api.ErrNone}})
			finds(t, "drawn", cs, p, wrong)
		}
		if t.Failed() {
			t.Fatal(brief(cs))
		}
	}
	if told[api.OK] < 500 || told[api.ErrTwice] < 500 {
		t.Errorf("OK is told %d times, ErrTwice %d times: the lot is no good", told[api.OK], told[api.ErrTwice])
	}
}

// FuzzDrawn: payments drawn by the bytes.
func FuzzDrawn(f *testing.F) {
	f.Add([]byte(nil))
	f.Add([]byte{1, 2, 3, 4, 5, 6, 7, 8, 9, 10, 11, 12, 13, 14, 15, 16, 17, 18, 19, 20})
	f.Add(bytes.Repeat([]byte{7, 11, 3, 250, 39}, 60))
	f.Fuzz(func(t *testing.T, lot []byte) {
		holdsDrawn(t, 1+len(lot)/20, func(n int) int {
			if len(lot) == 0 {
				return n - 1
			}
			x := int(lot[0])
			lot = lot[1:]
			return x % n
		}, map[api.Errno]int{})
	})
}
