package money

import (
	"math"
	"math/big"
	"slices"
	"testing"

	"moneyer/api"
	"moneyer/plain"
)

// The numbers of MO1 and MO2, written out, so that the tests do not hang on those of package api.
const (
	most    = 1125899906842624 // 2^50
	highest = 1073741824       // 2^30
	all     = 2147483647000    // 1000 times 2^30, 2^29, and so on to 1
)

// amounts has both ends of what is an amount, those next to them, and some between.
var amounts = []int{0, 1, 2, 3, 1000, 1 << 31, most / 2, most/2 + 1, most - 2, most - 1, most}

// noAmounts has what is none, on both sides.
var noAmounts = []int{-1, -2, -most, -most - 1, math.MinInt32, math.MinInt + 1, math.MinInt, most + 1, most + 2, 2 * most, math.MaxInt - 1, math.MaxInt}

// noHeights has what is no height, on both sides.
var noHeights = []int{-1, -2, -999, -1000, -1001, -highest, math.MinInt + 1, math.MinInt, highest + 1, highest + 1000, 2 * highest, most, math.MaxInt - 1, math.MaxInt}

// holds: a number and an error are those that are to be told.
func holds(t *testing.T, name string, got int, err error, want int, wrong api.Errno) {
	t.Helper()
	if got != want || plain.Told(err) != wrong {
		t.Errorf("%s: got %d, %v, want %d, %v", name, got, err, want, wrong)
	}
}

func isAmount(n *big.Int) bool {
	return n.Sign() >= 0 && n.Cmp(big.NewInt(most)) <= 0
}

// otherSum is what Sum is to tell, by numbers that are never too great.
func otherSum(ns []int) (int, api.Errno) {
	total := new(big.Int)
	for _, n := range ns {
		next := big.NewInt(int64(n))
		if !isAmount(next) {
			return 0, api.ErrRange
		}
		if total.Add(total, next); !isAmount(total) {
			return 0, api.ErrFull
		}
	}
	return int(total.Int64()), api.OK
}

// otherMade is what Made is to tell, halved step by step.
func otherMade(height int) int {
	made := 1073741824
	for ; height >= 1000 && made > 0; height -= 1000 {
		made /= 2
	}
	return made
}

func TestMO1Check(t *testing.T) {
	for _, n := range amounts {
		if err := Check(n); err != nil {
			t.Errorf("Check(%d): got %v", n, err)
		}
	}
	for _, n := range noAmounts {
		if err := Check(n); plain.Told(err) != api.ErrRange {
			t.Errorf("Check(%d): got %v, want ErrRange", n, err)
		}
	}
}

func TestMO1Add(t *testing.T) {
	known := []struct {
		a, b, want int
		wrong      api.Errno
	}{
		{0, 0, 0, api.OK},
		{2, 3, 5, api.OK},
		{0, most, most, api.OK},
		{most, 0, most, api.OK},
		{1, most - 1, most, api.OK},
		{most - 1, 1, most, api.OK},
		{most / 2, most / 2, most, api.OK},
		{1, most, 0, api.ErrFull},
		{most, 1, 0, api.ErrFull},
		{most / 2, most/2 + 1, 0, api.ErrFull},
		{most, most, 0, api.ErrFull},
	}
	for _, k := range known {
		got, err := Add(k.a, k.b)
		holds(t, "Add", got, err, k.want, k.wrong)
	}
}

// TestMO1AddAll: each amount with each.
func TestMO1AddAll(t *testing.T) {
	for _, a := range amounts {
		for _, b := range amounts {
			want, wrong := otherSum([]int{a, b})
			got, err := Add(a, b)
			holds(t, "Add", got, err, want, wrong)
		}
	}
}

// TestMO1AddNoAmount: as a, as b, and both; ahead of ErrFull, and where the sum would be an amount.
func TestMO1AddNoAmount(t *testing.T) {
	for _, no := range noAmounts {
		for _, n := range slices.Concat(amounts, noAmounts) {
			got, err := Add(no, n)
			holds(t, "no amount ahead", got, err, 0, api.ErrRange)
			got, err = Add(n, no)
			holds(t, "no amount behind", got, err, 0, api.ErrRange)
		}
	}
}

func TestMO1Sum(t *testing.T) {
	known := []struct {
		ns    []int
		want  int
		wrong api.Errno
	}{
		{nil, 0, api.OK},
		{[]int{}, 0, api.OK},
		{[]int{0}, 0, api.OK},
		{[]int{7}, 7, api.OK},
		{[]int{0, 0, 0}, 0, api.OK},
		{[]int{1, 2, 3, 4}, 10, api.OK},
		{[]int{most}, most, api.OK},
		{[]int{0, most, 0}, most, api.OK},
		{[]int{most - 3, 1, 1, 1}, most, api.OK},
		{[]int{most / 4, most / 4, most / 4, most / 4}, most, api.OK},
		{[]int{most, 1}, 0, api.ErrFull},
		{[]int{1, most}, 0, api.ErrFull},
		{[]int{1, 0, most, 0}, 0, api.ErrFull},
		{[]int{most - 3, 1, 1, 1, 1}, 0, api.ErrFull},
		{[]int{most, most, most}, 0, api.ErrFull},
	}
	for _, k := range known {
		got, err := Sum(k.ns)
		holds(t, "Sum", got, err, k.want, k.wrong)
	}
}

// TestMO1SumNoAmount: first, last and between.
func TestMO1SumNoAmount(t *testing.T) {
	for _, no := range noAmounts {
		for _, ns := range [][]int{{no}, {no, 1, 2}, {1, no, 2}, {1, 2, no}, {most, no}, {no, most}, {0, no, 0}, {no, no}, {1, no, -1}} {
			got, err := Sum(ns)
			holds(t, "Sum", got, err, 0, api.ErrRange)
		}
	}
}

// TestMO1SumOneByOne: all that is wrong with one comes ahead of what is wrong with the next.
func TestMO1SumOneByOne(t *testing.T) {
	for _, no := range noAmounts {
		known := []struct {
			ns    []int
			wrong api.Errno
		}{
			{[]int{most, 1, no}, api.ErrFull},
			{[]int{1, most, no, 1}, api.ErrFull},
			{[]int{most, 0, 1, 5, no}, api.ErrFull},
			{[]int{most, no, 1}, api.ErrRange},
			{[]int{no, most, 1}, api.ErrRange},
			{[]int{most, 0, no, most}, api.ErrRange},
		}
		for _, k := range known {
			got, err := Sum(k.ns)
			holds(t, "Sum", got, err, 0, k.wrong)
		}
	}
}

// TestMO1SumGoesRoundNowhere: as many of the greatest as would be 0 again, and more, in an int.
func TestMO1SumGoesRoundNowhere(t *testing.T) {
	for _, count := range []int{1 << 13, 1<<13 + 1, 1 << 14, 1<<14 + 1} {
		got, err := Sum(slices.Repeat([]int{most}, count))
		holds(t, "many of the greatest", got, err, 0, api.ErrFull)
	}
}

// TestMO1SumOfMany: a million of them, to the greatest sum, and one more.
func TestMO1SumOfMany(t *testing.T) {
	ns := slices.Repeat([]int{most >> 20}, 1<<20)
	got, err := Sum(ns)
	holds(t, "a million", got, err, most, api.OK)
	got, err = Sum(append(ns, 1))
	holds(t, "one more", got, err, 0, api.ErrFull)
	ns[0]--
	got, err = Sum(ns)
	holds(t, "one less", got, err, most-1, api.OK)
}

// TestMO1SumOfThree: each three of all that is an amount or none.
func TestMO1SumOfThree(t *testing.T) {
	some := slices.Concat(amounts, noAmounts)
	for _, a := range some {
		for _, b := range some {
			for _, c := range some {
				ns := []int{a, b, c}
				want, wrong := otherSum(ns)
				got, err := Sum(ns)
				holds(t, "Sum", got, err, want, wrong)
			}
		}
	}
}

func TestMO2KnownMade(t *testing.T) {
	known := []struct{ height, want int }{
		{0, 1073741824},
		{1, 1073741824},
		{999, 1073741824},
		{1000, 536870912},
		{1001, 536870912},
		{1999, 536870912},
		{2000, 268435456},
		{2999, 268435456},
		{3000, 134217728},
		{28999, 4},
		{29000, 2},
		{29999, 2},
		{30000, 1},
		{30999, 1},
		{31000, 0},
		{31001, 0},
		{62000, 0},
		{63000, 0},
		{64000, 0},
		{65000, 0},
		{94000, 0},
		{256000, 0},
		{highest - 1, 0},
		{highest, 0},
	}
	for _, k := range known {
		got, err := Made(k.height)
		holds(t, "Made", got, err, k.want, api.OK)
	}
}

func TestMO2KnownSupply(t *testing.T) {
	known := []struct{ height, want int }{
		{0, 1073741824},
		{1, 2147483648},
		{998, 1072668082176},
		{999, 1073741824000},
		{1000, 1074278694912},
		{1001, 1074815565824},
		{1999, 1610612736000},
		{2000, 1610881171456},
		{2999, 1879048192000},
		{29999, all - 1000},
		{30000, all - 999},
		{30998, all - 1},
		{30999, all},
		{31000, all},
		{31999, all},
		{64000, all},
		{highest - 1, all},
		{highest, all},
	}
	for _, k := range known {
		got, err := Supply(k.height)
		holds(t, "Supply", got, err, k.want, api.OK)
	}
}

// TestMO2BlockByBlock: each height, till long behind the last one that makes anything.
func TestMO2BlockByBlock(t *testing.T) {
	total := 0
	for height := range 300000 {
		made := otherMade(height)
		got, err := Made(height)
		holds(t, "Made", got, err, made, api.OK)
		total += made
		got, err = Supply(height)
		holds(t, "Supply", got, err, total, api.OK)
		if t.Failed() {
			t.Fatalf("at height %d", height)
		}
	}
}

// TestMO2MadeNoMore: heights all the way up, at which nothing is made, and none is lost.
func TestMO2MadeNoMore(t *testing.T) {
	for height := 31000; height <= highest; height += 99991 {
		got, err := Made(height)
		holds(t, "Made", got, err, 0, api.OK)
		got, err = Supply(height)
		holds(t, "Supply", got, err, all, api.OK)
	}
}

func TestMO2NoHeight(t *testing.T) {
	for _, height := range noHeights {
		got, err := Made(height)
		holds(t, "Made", got, err, 0, api.ErrRange)
		got, err = Supply(height)
		holds(t, "Supply", got, err, 0, api.ErrRange)
	}
}

// TestMO2NeverTooMuch: all that is ever made is an amount.
func TestMO2NeverTooMuch(t *testing.T) {
	got, err := Supply(highest)
	if err != nil || Check(got) != nil {
		t.Errorf("Supply(%d): got %d, %v", highest, got, err)
	}
}

// TestP2SumWritesNothing: neither into the list nor behind its length, which is not read either.
func TestP2SumWritesNothing(t *testing.T) {
	for _, behind := range []int{-1, most + 1, 5} {
		whole := []int{3, 1, 2, behind, most, behind}
		before := slices.Clone(whole)
		got, err := Sum(whole[:3])
		holds(t, "three of more", got, err, 6, api.OK)
		got, err = Sum(whole[:0])
		holds(t, "none of more", got, err, 0, api.OK)
		if _, err := Sum(whole); err == nil {
			t.Errorf("Sum(%v): no error", whole)
		}
		if !slices.Equal(whole, before) {
			t.Errorf("Sum: %v was handed in, %v is there behind it", before, whole)
		}
	}
}

// TestP2SumKeepsNothing: what is told hangs on what is handed in alone, also behind an error.
func TestP2SumKeepsNothing(t *testing.T) {
	ns := []int{1, 2, 3}
	for range 2 {
		got, err := Sum(ns)
		holds(t, "Sum", got, err, 6, api.OK)
		got, err = Sum([]int{most, 1})
		holds(t, "too much", got, err, 0, api.ErrFull)
	}
	ns[0] = 10
	got, err := Sum(ns)
	holds(t, "behind a change", got, err, 15, api.OK)
}

func FuzzSum(f *testing.F) {
	f.Add(0, 0, 0)
	f.Add(most, 1, -1)
	f.Add(most, -1, 1)
	f.Add(math.MaxInt, math.MinInt, highest)
	f.Add(999, 1000, 31000)
	f.Fuzz(func(t *testing.T, a, b, c int) {
		for _, ns := range [][]int{{a, b, c}, {a, b}, {a}, {a & (most - 1), b & (most - 1), c & (most - 1)}} {
			want, wrong := otherSum(ns)
			got, err := Sum(ns)
			holds(t, "Sum", got, err, want, wrong)
			if len(ns) == 2 {
				got, err = Add(a, b)
				holds(t, "Add", got, err, want, wrong)
			}
		}
		holdsNextHeight(t, a)
		holdsNextHeight(t, a&(highest-1))
	})
}

// holdsNextHeight: a block makes what it should, and there is so much more with it than ahead of it.
func holdsNextHeight(t *testing.T, height int) {
	t.Helper()
	made, err := Made(height)
	if height < 0 || height > highest {
		holds(t, "Made", made, err, 0, api.ErrRange)
		supply, err := Supply(height)
		holds(t, "Supply", supply, err, 0, api.ErrRange)
		return
	}
	holds(t, "Made", made, err, otherMade(height), api.OK)
	ahead := 0
	if height > 0 {
		ahead, _ = Supply(height - 1)
	}
	supply, err := Supply(height)
	holds(t, "Supply", supply, err, ahead+made, api.OK)
}
