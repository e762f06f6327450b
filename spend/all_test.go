package spend

import (
	"math"
	"slices"
	"testing"

	"moneyer/api"
)

// chain: so many payments, the first one of a coin, each other one of what the one ahead has paid.
func chain(c api.Coin, n int) []api.Tx {
	ts := []api.Tx{spends([]api.Coin{c}, c.Out.Amount)}
	for i := 1; i < n; i++ {
		ts = append(ts, then(ts[i-1], []int{0}, c.Out.Amount-i))
	}
	return ts
}

// apiece: a payment of each coin, with one out of the amount.
func apiece(cs []api.Coin, amount int) []api.Tx {
	var ts []api.Tx
	for i := range cs {
		ts = append(ts, spends(cs[i:i+1], amount))
	}
	return ts
}

// TestSP2NoPayments: what was handed in is told, whatever it is, as nothing looks at it one by one.
func TestSP2NoPayments(t *testing.T) {
	turned := setOf(5, 1)
	slices.Reverse(turned)
	for _, cs := range [][]api.Coin{nil, {}, setOf(1, 1), setOf(1000, 7), setOf(1001, 7), turned, make([]api.Coin, 3), {{Height: -1, Out: out(-1, ops(0)...)}}} {
		for _, ts := range [][]api.Tx{nil, {}} {
			for _, height := range []int{0, 4, 1 << 30, 1<<30 + 1, -1, math.MaxInt, math.MinInt} {
				got := pays(t, "no payments", cs, ts, height, api.OK)
				if text(got.set) != text(cs) || got.left != 0 {
					t.Errorf("no payments: got %s, %d, want %s", brief(got.set), got.left, brief(cs))
				}
			}
		}
	}
}

// TestSP2MaxTxs: as many as may be, and one more, also where all else is wrong.
func TestSP2MaxTxs(t *testing.T) {
	cs := setOf(250, 5)
	for _, n := range []int{1, 2, 3, 99, 100} {
		got := pays(t, "so many", cs, apiece(cs[20:20+n], 3), 4, api.OK)
		if len(got.set) != 250 || got.left != 2*n {
			t.Errorf("%d payments: got %d coins, %d left over", n, len(got.set), got.left)
		}
	}
	for _, n := range []int{101, 102, 200} {
		pays(t, "too many", cs, apiece(cs[20:20+n], 3), 4, api.ErrFull)
		pays(t, "too many, no set", make([]api.Coin, 2), apiece(cs[20:20+n], 3), 4, api.ErrFull)
		pays(t, "too many, too early", cs, slices.Repeat([]api.Tx{{Outs: []api.Out{out(1)}, Time: 9}}, n), 4, api.ErrFull)
		pays(t, "too many, no height", cs, apiece(cs[20:20+n], 3), -1, api.ErrFull)
		pays(t, "too many, no payments", cs, make([]api.Tx, n), 4, api.ErrFull)
	}
	for _, i := range []int{0, 1, 50, 98, 99} {
		ts := apiece(cs[20:120], 3)
		ts[i].Ins[0].Keys = nil
		pays(t, "100, one that is not opened", cs, ts, 4, api.ErrLock)
		ts[i] = spends(cs[20+i:21+i], 6)
		pays(t, "100, one that pays too much", cs, ts, 4, api.ErrMoney)
		ts[i] = spends(nil, 6)
		pays(t, "100, one that makes money", cs, ts, 4, api.OK)
	}
}

// TestSP2Chain: payments of what the ones ahead have paid, in their order, and with two exchanged.
func TestSP2Chain(t *testing.T) {
	cs := setOf(60, 500)
	for _, n := range []int{1, 2, 3, 7, 100} {
		ts := chain(cs[33], n)
		got := pays(t, "a chain", cs, ts, 4, api.OK)
		if len(got.set) != 60 || got.left != n-1 {
			t.Errorf("a chain of %d: got %d coins, %d left over", n, len(got.set), got.left)
		}
		for i := range min(n-1, 7) {
			turned := slices.Clone(ts)
			turned[i], turned[i+1] = turned[i+1], turned[i]
			pays(t, "two exchanged", cs, turned, 4, api.ErrNone)
			pays(t, "one less", cs, slices.Delete(slices.Clone(ts), i, i+1), 4, api.ErrNone)
			pays(t, "one twice", cs, slices.Insert(slices.Clone(ts), i, ts[i])[:n], 4, api.ErrNone)
		}
		slices.Reverse(ts)
		if n > 1 {
			pays(t, "the last one first", cs, ts, 4, api.ErrNone)
		}
	}
}

// TestSP2Orders: payments of which some spend what others pay: just the orders in which these stand ahead of those.
func TestSP2Orders(t *testing.T) {
	cs := setOf(60, 10)
	a := spends(cs[40:42], 7, 8, 2)
	b := spends(nil, 6)
	c := then(a, []int{0, 2}, 3, 3)
	d := then(c, []int{1}, 1)
	d.Ins = append(d.Ins, then(b, []int{0}).Ins...)
	d.Ins = append(d.Ins, spends(cs[:1]).Ins...)
	ts := []api.Tx{a, b, c, d}
	oks := 0
	for n := range 4 * 4 * 4 * 4 {
		order := []int{n % 4, n / 4 % 4, n / 16 % 4, n / 64}
		where := map[int]int{}
		for i, which := range order {
			where[which] = i
		}
		if len(where) < 4 {
			continue
		}
		want := api.ErrNone
		if where[0] < where[2] && where[2] < where[3] && where[1] < where[3] {
			want = api.OK
			oks++
		}
		got := pays(t, "some order", cs, []api.Tx{ts[order[0]], ts[order[1]], ts[order[2]], ts[order[3]]}, 4, want)
		if want == api.OK && (got.left != 3+3+18 || len(got.set) != 60) {
			t.Errorf("order %v: got %d coins, %d left over", order, len(got.set), got.left)
		}
	}
	if oks != 3 {
		t.Errorf("%d orders are right, want 3", oks)
	}
}

// TestSP2Twice: one coin is spent once, whoever spends it, and whatever stands between.
func TestSP2Twice(t *testing.T) {
	cs := setOf(60, 10)
	one, other, third := spends(cs[20:21], 5), spends(cs[19:22], 5), spends(cs[40:41], 9)
	pays(t, "two of one coin", cs, []api.Tx{one, other}, 4, api.ErrNone)
	pays(t, "two of one coin, turned round", cs, []api.Tx{other, one}, 4, api.ErrNone)
	pays(t, "two of one coin, one between", cs, []api.Tx{one, third, other}, 4, api.ErrNone)
	pays(t, "two of one coin, one ahead", cs, []api.Tx{third, one, other}, 4, api.ErrNone)
	pays(t, "one payment twice", cs, []api.Tx{one, one}, 4, api.ErrNone)
	pays(t, "one payment twice, the first time of no coin", drop(cs, cs[20].Place), []api.Tx{one, one}, 4, api.ErrNone)
	next := then(one, []int{0}, 4)
	pays(t, "two of what one ahead has paid", cs, []api.Tx{one, next, then(one, []int{0}, 3)}, 4, api.ErrNone)
	pays(t, "one payment again behind the one that spends it", cs, []api.Tx{one, next, one}, 4, api.ErrNone)

	mint, later := spends(nil, 5), spends(nil, 5)
	later.Time = 1
	pays(t, "one payment without Ins twice", cs, []api.Tx{mint, mint}, 4, api.ErrTwice)
	pays(t, "one payment without Ins twice, others between", cs, []api.Tx{mint, one, third, mint}, 4, api.ErrTwice)
	pays(t, "two payments without Ins", cs, []api.Tx{mint, later}, 4, api.OK)
	// Once what it paid is spent, its places are free.
	pays(t, "one payment without Ins twice, spent between", cs, []api.Tx{mint, then(mint, []int{0}, 5), mint}, 4, api.OK)
	two := spends(nil, 5, 6)
	pays(t, "one of two spent between", cs, []api.Tx{two, then(two, []int{0}, 5), two}, 4, api.ErrTwice)
	pays(t, "both of two spent between", cs, []api.Tx{two, then(two, []int{1}, 5), then(two, []int{0}, 5), two}, 4, api.OK)
}

// TestSP2Left: what is left over of all together, which may be above MaxMoney.
func TestSP2Left(t *testing.T) {
	most := api.MaxMoney
	for _, n := range []int{1, 2, 3, 100} {
		cs := setOf(200, most)
		if got := pays(t, "all there can be, each time", cs, apiece(cs[50:50+n], 0), 4, api.OK); got.left != n*most {
			t.Errorf("%d times all there can be: got %d left over", n, got.left)
		}
		if got := pays(t, "all there can be, but 1, each time", cs, apiece(cs[50:50+n], 1), 4, api.OK); got.left != n*(most-1) {
			t.Errorf("%d times all there can be, but 1: got %d left over", n, got.left)
		}
		if got := pays(t, "nothing, each time", cs, apiece(cs[50:50+n], most), 4, api.OK); got.left != 0 {
			t.Errorf("%d times nothing: got %d left over", n, got.left)
		}
	}
	cs := setOf(60, 10)
	known := []struct {
		name string
		ts   []api.Tx
		left int
	}{
		{"one", []api.Tx{spends(cs[:1], 4)}, 6},
		{"two", []api.Tx{spends(cs[:1], 4), spends(cs[1:2], 7, 1)}, 8},
		{"two, nothing of the first one", []api.Tx{spends(cs[:1], 10), spends(cs[1:2], 7, 1)}, 2},
		{"two, nothing of the second one", []api.Tx{spends(cs[:1], 4), spends(cs[1:2], 9, 1)}, 6},
		{"without Ins", []api.Tx{spends(nil, 4)}, 0},
		{"without Ins, all there can be", []api.Tx{spends(nil, most)}, 0},
		{"without Ins, several, above all there can be", []api.Tx{spends(nil, most), spends(nil, most, 0), spends(nil, most-1)}, 0},
		{"without Ins first", []api.Tx{spends(nil, 4), spends(cs[:2], 3)}, 17},
		{"without Ins last", []api.Tx{spends(cs[:2], 3), spends(nil, most)}, 17},
		{"without Ins between", []api.Tx{spends(cs[:2], 3), spends(nil, most), spends(cs[5:6], 9)}, 18},
		{"what was left over is made again", []api.Tx{spends(cs[:2], 3), spends(nil, 17)}, 17},
		{"of what was made", []api.Tx{spends(nil, 9, 5), then(spends(nil, 9, 5), []int{0}, 2)}, 7},
	}
	for _, k := range known {
		if got := pays(t, k.name, cs, k.ts, 4, api.OK); got.left != k.left {
			t.Errorf("%s: got %d left over, want %d", k.name, got.left, k.left)
		}
	}
	pays(t, "more is paid than is spent, but less than by both", cs, []api.Tx{spends(cs[:1], 1), spends(cs[1:2], 11)}, 4, api.ErrMoney)
	pays(t, "more is paid than is spent, but less than was made", cs, []api.Tx{spends(nil, 100), spends(cs[1:2], 11)}, 4, api.ErrMoney)
}

// TestSP2MaxSet: what is there between two payments may be too large, whatever the last one leaves.
func TestSP2MaxSet(t *testing.T) {
	cs := setOf(1000, 5)
	less, same, more := spends(cs[500:502], 5), spends(cs[600:601], 5), spends(cs[700:701], 5, 0)
	pays(t, "one less, one more", cs, []api.Tx{less, more}, 4, api.OK)
	pays(t, "one more, one less", cs, []api.Tx{more, less}, 4, api.ErrFull)
	pays(t, "the same, one less, one more, the same", cs, []api.Tx{same, less, more, then(same, []int{0}, 5)}, 4, api.OK)
	pays(t, "one less, one more, and one without Ins", cs, []api.Tx{less, more, spends(nil, 5)}, 4, api.ErrFull)
	pays(t, "one less, and one without Ins", cs, []api.Tx{less, spends(nil, 5)}, 4, api.OK)
	wide := spends(nil, make([]int, 40)...)
	pays(t, "40 more", cs[:960], []api.Tx{wide}, 4, api.OK)
	pays(t, "one more, 40 more", cs[:960], []api.Tx{spends(nil, 1), wide}, 4, api.ErrFull)
	pays(t, "40 more, one more", cs[:960], []api.Tx{wide, spends(nil, 1)}, 4, api.ErrFull)
	var ts []api.Tx
	for i := range 26 {
		p := spends(nil, make([]int, 40)...)
		p.Time = i
		ts = append(ts, p)
	}
	pays(t, "40 more, 25 times", nil, ts[:25], 100, api.OK)
	pays(t, "40 more, 26 times", nil, ts, 100, api.ErrFull)
}

// TestSP2Heights: one height for all of a list, and each Time by itself.
func TestSP2Heights(t *testing.T) {
	cs := setOf(60, 10)
	for i := range 3 {
		for _, time := range []int{0, 3, 4, 5, 1 << 30} {
			ts := apiece(cs[10:13], 7)
			ts[i].Time = time
			for _, height := range []int{-1, 0, 3, 4, 5, 1<<30 - 1, 1 << 30, 1<<30 + 1, math.MinInt, math.MaxInt} {
				want := api.OK
				switch {
				case height < 0 || height > 1<<30:
					want = api.ErrRange
				case time > height:
					want = api.ErrEarly
				}
				pays(t, "one of a Time", cs, ts, height, want)
			}
		}
	}
	// What was made in the list came at its height.
	got := pays(t, "a chain", cs, chain(cs[10], 5), 77, api.OK)
	news := 0
	for _, c := range got.set {
		if c.Height == 77 {
			news++
		}
	}
	if news != 1 {
		t.Errorf("a chain at height 77: %d coins of that height", news)
	}
}

// TestSP2Faults: each fault at the first payment, at a later one, and at the last.
func TestSP2Faults(t *testing.T) {
	d := newDeed(5)
	pays(t, "no fault", d.set(), d.ts, d.height, api.OK)
	for i := range 5 {
		for _, f := range slices.Concat(wholeFaults(), payFaults()) {
			d := newDeed(5)
			f.make(d, i)
			pays(t, f.name, d.set(), d.ts, d.height, f.want)
		}
	}
}

// TestSP2FaultsBehindOthers: each fault at a payment of what the one ahead has paid.
func TestSP2FaultsBehindOthers(t *testing.T) {
	for _, f := range payFaults() {
		d := newDeed(2)
		d.ts[0] = spends([]api.Coin{d.cs[first(0)]}, 5, 0)
		d.ts[1] = spends([]api.Coin{d.cs[first(1)], d.cs[second(1)]}, 3, 4)
		d.ts = append(d.ts, then(d.ts[0], []int{0, 1}, 1))
		f.make(d, 1)
		pays(t, f.name, d.set(), d.ts, d.height, f.want)
		d.ts[1], d.ts[2] = d.ts[2], d.ts[1]
		for i := range d.taken {
			d.taken[i][0] = 2
		}
		pays(t, f.name+", last", d.set(), d.ts, d.height, f.want)
	}
}

// TestSP2FirstError: each two faults, at one payment, and at two, of which that of the one ahead is told; that of the set ahead of all.
func TestSP2FirstError(t *testing.T) {
	whole, all := wholeFaults(), payFaults()
	for n, one := range all {
		for m, other := range all {
			d := newDeed(3)
			other.make(d, 2)
			one.make(d, 1)
			want := one.want
			if other.of == "height" {
				// The height is that of the first payment, too, where nothing else is wrong.
				want = other.want
			}
			pays(t, one.name+", then "+other.name, d.set(), d.ts, d.height, want)
			if n < m && one.of != other.of && one.of != "height" && other.of != "height" {
				d := newDeed(3)
				other.make(d, 1)
				one.make(d, 1)
				pays(t, one.name+", "+other.name, d.set(), d.ts, d.height, one.want)
			}
		}
		for _, other := range whole {
			if one.of == other.of {
				continue
			}
			d := newDeed(3)
			one.make(d, 0)
			other.make(d, 2)
			pays(t, other.name+", "+one.name, d.set(), d.ts, d.height, other.want)
		}
	}
}
