package coin

import (
	"math"
	"slices"
	"testing"

	"moneyer/api"
	"moneyer/plain"
)

func TestCO1KnownCompare(t *testing.T) {
	known := []struct {
		a, b api.Place
		want int
	}{
		{api.Place{}, api.Place{}, 0},
		{api.Place{At: 1}, api.Place{}, 1},
		{api.Place{}, api.Place{At: 1}, -1},
		{api.Place{At: -1}, api.Place{}, -1},
		{api.Place{At: math.MinInt}, api.Place{At: math.MaxInt}, -1},
		{api.Place{At: math.MaxInt}, api.Place{At: math.MinInt}, 1},
		{api.Place{At: 2}, api.Place{At: 10}, -1},
		{api.Place{Tx: api.Digest{1}}, api.Place{At: 39}, 1},
		{api.Place{At: 39}, api.Place{Tx: api.Digest{31: 1}}, -1},
		{api.Place{Tx: api.Digest{127}}, api.Place{Tx: api.Digest{128}}, -1},
		{api.Place{Tx: api.Digest{255}}, api.Place{Tx: api.Digest{0, 255}}, 1},
		{api.Place{Tx: api.Digest{1, 2}}, api.Place{Tx: api.Digest{2, 1}}, -1},
		{api.Place{Tx: api.Digest{1, 2}, At: 5}, api.Place{Tx: api.Digest{1, 2}, At: 5}, 0},
		{api.Place{Tx: api.Digest{31: 2}}, api.Place{Tx: api.Digest{31: 1}, At: 7}, 1},
	}
	for _, k := range known {
		if got := Compare(k.a, k.b); got != k.want {
			t.Errorf("Compare(%v, %v): got %d, want %d", k.a, k.b, got, k.want)
		}
	}
}

// TestCO1CompareAll: each byte of a digest with all kinds of values, each At with each.
func TestCO1CompareAll(t *testing.T) {
	var all []api.Place
	for i := range 32 {
		for _, value := range []byte{1, 127, 128, 255} {
			p := api.Place{At: i % 3}
			p.Tx[i] = value
			all = append(all, p)
		}
	}
	for _, at := range []int{math.MinInt, math.MinInt + 1, -1, 0, 1, 9, 10, 39, 40, 1 << 32, math.MaxInt - 1, math.MaxInt} {
		all = append(all, api.Place{At: at}, place(3, at))
	}
	for i, a := range all {
		for j, b := range all {
			want := otherCompare(a, b)
			if got := Compare(a, b); got != want || (got == 0) != (i == j) {
				t.Errorf("Compare(%v, %v): got %d, want %d", a, b, got, want)
			}
		}
	}
}

func TestCO1Sets(t *testing.T) {
	checks(t, "no coins", nil, api.OK)
	checks(t, "no coins, not nil", []api.Coin{}, api.OK)
	checks(t, "one coin of nothing", []api.Coin{{}}, api.OK)
	checks(t, "places of one payment", setOf(40, 1), api.OK)
	checks(t, "places of several", []api.Coin{coinAt(place(1, 39), 1), coinAt(place(2, 0), 1), coinAt(place(2, 7), 1), coinAt(place(200, 3), 1)}, api.OK)
	checks(t, "the same out at each place", []api.Coin{{Place: place(1, 0), Out: pay(7, push(1))}, {Place: place(1, 1), Out: pay(7, push(1))}}, api.OK)
}

func TestCO1MaxSet(t *testing.T) {
	for _, n := range []int{1, 2, 3, 998, 999, 1000} {
		checks(t, "so many", setOf(n, 1), api.OK)
	}
	for _, n := range []int{1001, 1002, 1024, 2000} {
		checks(t, "too many", setOf(n, 1), api.ErrFull)
	}
	checks(t, "too many, all wrong", make([]api.Coin, 1001), api.ErrFull)
	checks(t, "too many, above MaxMoney", setOf(1001, api.MaxMoney), api.ErrFull)
	cs := setOf(1000, 1)
	cs[999].Place = cs[998].Place
	checks(t, "the last one of 1000 at the place ahead", cs, api.ErrTwice)
	cs = setOf(1000, 1)
	cs[999].Height = -1
	checks(t, "the last one of 1000 at no height", cs, api.ErrRange)
}

func TestCO1Order(t *testing.T) {
	cs := setOf(100, 1)
	for i := range cs {
		for _, j := range []int{i + 1, i + 2, 99} {
			if j <= i || j > 99 {
				continue
			}
			turned := slices.Clone(cs)
			turned[i], turned[j] = turned[j], turned[i]
			checks(t, "two turned round", turned, api.ErrTwice)
			twice := slices.Clone(cs)
			twice[j].Place = twice[i].Place
			checks(t, "one place twice", twice, api.ErrTwice)
		}
	}
	checks(t, "one coin twice", []api.Coin{cs[3], cs[3]}, api.ErrTwice)
	checks(t, "one place twice, another out", []api.Coin{coinAt(place(1, 2), 3), coinAt(place(1, 2), 4)}, api.ErrTwice)
	checks(t, "the least place twice", []api.Coin{{}, {}}, api.ErrTwice)
	checks(t, "by At ahead of Tx", []api.Coin{coinAt(place(2, 0), 1), coinAt(place(1, 1), 1)}, api.ErrTwice)
	checks(t, "by the last byte ahead of the first", []api.Coin{{Place: api.Place{Tx: api.Digest{0: 2, 31: 1}}}, {Place: api.Place{Tx: api.Digest{0: 1, 31: 2}}}}, api.ErrTwice)
	checks(t, "by a byte's sign", []api.Coin{coinAt(place(128, 0), 1), coinAt(place(127, 0), 1)}, api.ErrTwice)
	slices.Reverse(cs)
	checks(t, "the last one first", cs, api.ErrTwice)
}

func TestCO1Numbers(t *testing.T) {
	with := func(i int, change func(c *api.Coin)) []api.Coin {
		cs := []api.Coin{coinAt(place(1, 0), 1), coinAt(place(2, 0), 2), coinAt(place(3, 0), 3)}
		change(&cs[i])
		return cs
	}
	for i := range 3 {
		for at := range 40 {
			checks(t, "At", with(i, func(c *api.Coin) { c.Place.At = at }), api.OK)
		}
		for _, at := range []int{-1, -40, 40, 41, 256, 1 << 32, math.MaxInt, math.MinInt} {
			checks(t, "no At", with(i, func(c *api.Coin) { c.Place.At = at }), api.ErrRange)
		}
		for _, height := range []int{0, 1, 1000, 1<<30 - 1, 1 << 30} {
			checks(t, "Height", with(i, func(c *api.Coin) { c.Height = height }), api.OK)
		}
		for _, height := range []int{-1, -2, 1<<30 + 1, 1 << 32, math.MaxInt, math.MinInt} {
			checks(t, "no Height", with(i, func(c *api.Coin) { c.Height = height }), api.ErrRange)
		}
		for _, n := range []int{0, 1, 1 << 32, 1<<50 - 7} {
			checks(t, "Amount", with(i, func(c *api.Coin) { c.Out.Amount = n }), api.OK)
		}
		for _, n := range []int{-1, -2, 1<<50 + 1, math.MaxInt, math.MinInt} {
			checks(t, "no Amount", with(i, func(c *api.Coin) { c.Out.Amount = n }), api.ErrRange)
		}
	}
}

func TestCO1Lock(t *testing.T) {
	known := []struct {
		name string
		l    []api.Op
		want api.Errno
	}{
		{"no ops", nil, api.OK},
		{"no ops, not nil", []api.Op{}, api.OK},
		{"60 ops", slices.Repeat([]api.Op{op(api.Dup)}, 60), api.OK},
		{"61 ops", slices.Repeat([]api.Op{op(api.Dup)}, 61), api.ErrFull},
		{"no op", []api.Op{op(15)}, api.ErrSyntax},
		{"Push of 300", []api.Op{push(make([]byte, 300)...)}, api.OK},
		{"Push of 301", []api.Op{push(make([]byte, 301)...)}, api.ErrFull},
		{"Many of 10", []api.Op{many(10)}, api.ErrRange},
		{"not in pairs", []api.Op{op(api.If)}, api.ErrSyntax},
	}
	for _, k := range known {
		for i := range 3 {
			cs := setOf(3, 1)
			cs[i].Out.Lock = k.l
			checks(t, k.name, cs, k.want)
		}
	}
}

// setFault is something that is wrong with a coin of a set, or with all of it.
type setFault struct {
	name string
	of   string // two faults of the same can not be there together
	want api.Errno
	make func(cs []api.Coin) []api.Coin
}

// setFaults: of a set of at least three coins, in the order in which they are to be told.
func setFaults() []setFault {
	all := []setFault{{"too many", "all", api.ErrFull, func(cs []api.Coin) []api.Coin {
		return slices.Concat(cs, setOf(1001, 1))
	}}}
	change := func(i int, with func(c *api.Coin)) func(cs []api.Coin) []api.Coin {
		return func(cs []api.Coin) []api.Coin {
			cs = slices.Clone(cs)
			with(&cs[i])
			return cs
		}
	}
	for i, name := range []string{"coin 0", "coin 1", "coin 2"} {
		if i > 0 {
			all = append(all, setFault{name + " twice", name + " place", api.ErrTwice, func(cs []api.Coin) []api.Coin {
				return change(i, func(c *api.Coin) { c.Place = cs[i-1].Place })(cs)
			}})
		}
		all = append(all,
			setFault{name + " At", name + " place", api.ErrRange, change(i, func(c *api.Coin) { c.Place.At += 40 })},
			setFault{name + " Height", name + " height", api.ErrRange, change(i, func(c *api.Coin) { c.Height = api.MaxHeight + 1 })},
			setFault{name + " Amount", name + " amount", api.ErrRange, change(i, func(c *api.Coin) { c.Out.Amount = -1 })},
			setFault{name + " no lock", name + " lock", api.ErrSyntax, change(i, func(c *api.Coin) { c.Out.Lock = []api.Op{op(0)} })},
			setFault{name + " long lock", name + " lock", api.ErrFull, change(i, func(c *api.Coin) { c.Out.Lock = make([]api.Op, 61) })})
	}
	return all
}

// TestCO1FirstError: each fault by itself, and each two together, of which the one that is named first is told.
func TestCO1FirstError(t *testing.T) {
	cs := []api.Coin{coinAt(place(1, 0), 1), coinAt(place(2, 0), 2), coinAt(place(3, 0), 3)}
	all := setFaults()
	for i, first := range all {
		checks(t, first.name, first.make(cs), first.want)
		for _, second := range all[i+1:] {
			if first.of != second.of {
				// The second one first, as a place that is that of the one ahead is told once that one is right.
				checks(t, first.name+", "+second.name, first.make(second.make(cs)), first.want)
			}
		}
	}
	checks(t, "too many, of no order, of no numbers", slices.Repeat([]api.Coin{{Height: -1, Place: api.Place{At: 40}, Out: pay(-1, op(0))}}, 1001), api.ErrFull)
	checks(t, "no At, then twice", []api.Coin{{Place: api.Place{At: 40}}, {Place: api.Place{At: 40}}}, api.ErrRange)
	checks(t, "twice, and no lock", []api.Coin{{}, {Out: pay(1, op(0))}}, api.ErrTwice)
	checks(t, "no Amount, no lock", []api.Coin{{Out: pay(-1, op(0))}}, api.ErrRange)
	checks(t, "no lock ahead, twice behind", []api.Coin{{Out: pay(1, op(0))}, {}, {}}, api.ErrSyntax)
}

func TestCO1Find(t *testing.T) {
	for _, n := range []int{1, 2, 3, 4, 41, 1000} {
		cs := setOf(n, 7)
		for i, c := range cs {
			if n > 100 && i%37 > 1 && i < n-2 {
				continue
			}
			finds(t, "each coin", cs, c.Place, api.OK)
			near := c.Place
			near.Tx[16]++
			finds(t, "another payment", cs, near, api.ErrNone)
		}
		finds(t, "ahead of all", cs, api.Place{At: -1}, api.ErrNone)
		finds(t, "ahead of all by one", cs, place(0, -1), api.ErrNone)
		finds(t, "behind all", cs, api.Place{Tx: api.Digest{255}, At: 39}, api.ErrNone)
		finds(t, "behind all by one", cs, api.Place{Tx: cs[n-1].Place.Tx, At: cs[n-1].Place.At + 1}, api.ErrNone)
		finds(t, "At far off", cs, place(0, math.MaxInt), api.ErrNone)
		finds(t, "At far off below", cs, place(0, math.MinInt), api.ErrNone)
	}
	finds(t, "no coins", nil, api.Place{}, api.ErrNone)
	finds(t, "no coins, not nil", []api.Coin{}, place(1, 2), api.ErrNone)
	finds(t, "a gap", []api.Coin{coinAt(place(1, 0), 1), coinAt(place(1, 2), 1)}, place(1, 1), api.ErrNone)
	whole := api.Coin{Place: place(4, 5), Out: pay(6, push(7, 8), many(9)), Height: 10}
	finds(t, "with all that it has", put(setOf(90, 1), whole), whole.Place, api.OK)
	turned := []api.Coin{coinAt(place(2, 0), 1), coinAt(place(1, 0), 1)}
	finds(t, "there, in no set", turned, place(1, 0), api.ErrTwice)
	finds(t, "not there, in no set", turned, place(7, 0), api.ErrTwice)
}

func TestCO1Sum(t *testing.T) {
	most := api.MaxMoney
	known := []struct {
		name    string
		amounts []int
		want    int
		wrong   api.Errno
	}{
		{"no coins", nil, 0, api.OK},
		{"of nothing", []int{0, 0}, 0, api.OK},
		{"one", []int{7}, 7, api.OK},
		{"several", []int{5, 3, 0, 2}, 10, api.OK},
		{"one, all there can be", []int{most}, most, api.OK},
		{"all there can be", []int{most - 3, 1, 1, 1}, most, api.OK},
		{"all there can be, and nothing", []int{0, most, 0}, most, api.OK},
		{"one above", []int{most - 3, 1, 1, 2}, 0, api.ErrFull},
		{"one above, first", []int{1, most}, 0, api.ErrFull},
		{"far above", []int{most, most, most}, 0, api.ErrFull},
		{"no amount behind too much", []int{most, 1, -1}, 0, api.ErrRange},
		{"no amount, by which it were no more", []int{most, 1, -2}, 0, api.ErrRange},
	}
	for _, k := range known {
		cs := setOf(len(k.amounts), 0)
		for i, n := range k.amounts {
			cs[i].Out.Amount = n
		}
		if got, err := Sum(cs); got != k.want || plain.Told(err) != k.wrong {
			t.Errorf("%s: got %d, %v, want %d, %v", k.name, got, err, k.want, k.wrong)
		}
	}
	for _, n := range []int{999, 1000} {
		cs := setOf(n, most/n)
		cs[n/2].Out.Amount += most % n
		if got, err := Sum(cs); got != most || err != nil {
			t.Errorf("%d coins: got %d, %v, want all there can be", n, got, err)
		}
		cs[n-1].Out.Amount++
		if got, err := Sum(cs); got != 0 || plain.Told(err) != api.ErrFull {
			t.Errorf("%d coins: got %d, %v, want ErrFull", n, got, err)
		}
	}
	// Check of all of the set is told ahead of what all are together.
	for _, f := range setFaults() {
		if got, err := Sum(f.make(setOf(3, most))); got != 0 || plain.Told(err) != f.want {
			t.Errorf("%s, too much: got %d, %v, want %v", f.name, got, err, f.want)
		}
	}
	// As many of the greatest as would be 0 again in an int are more than a set may have; these are the most.
	if got, err := Sum(setOf(1000, most)); got != 0 || plain.Told(err) != api.ErrFull {
		t.Errorf("1000 of the greatest: got %d, %v, want ErrFull", got, err)
	}
}
