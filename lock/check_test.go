package lock

import (
	"bytes"
	"math"
	"slices"
	"testing"

	"moneyer/api"
	"moneyer/plain"
)

// ops: a lock of ops without N and Data.
func ops(kinds ...int) []api.Op {
	var l []api.Op
	for _, k := range kinds {
		l = append(l, api.Op{Op: k})
	}
	return l
}

func push(data ...byte) api.Op { return api.Op{Op: api.Push, Data: data} }
func many(n int) api.Op        { return api.Op{Op: api.Many, N: n} }
func after(n int) api.Op       { return api.Op{Op: api.After, N: n} }

// script: a lock of ops (api.Op), kinds of ops (int) and locks ([]api.Op), in order.
func script(parts ...any) []api.Op {
	var l []api.Op
	for _, p := range parts {
		switch x := p.(type) {
		case api.Op:
			l = append(l, x)
		case int:
			l = append(l, api.Op{Op: x})
		case []api.Op:
			l = append(l, x...)
		default:
			panic("no part of a lock")
		}
	}
	return l
}

// times: an op so many times.
func times(n int, o api.Op) []api.Op { return slices.Repeat([]api.Op{o}, n) }

// checks holds what Check tells, of Run too, and against the other program.
func checks(t *testing.T, name string, l []api.Op, want api.Errno) {
	t.Helper()
	if got := Check(l); plain.Told(got) != want {
		t.Errorf("%s: Check tells %v, want %v", name, got, want)
	}
	if other := otherCheck(l); other != want {
		t.Errorf("%s: the other program tells %v, want %v", name, other, want)
	}
	if want == api.OK {
		return
	}
	if got := Run(l, nil, api.Digest{}, 0); plain.Told(got) != want {
		t.Errorf("%s: Run tells %v, want %v", name, got, want)
	}
}

func TestLK1EachOp(t *testing.T) {
	for kind := api.Push; kind <= api.Not; kind++ {
		want := api.OK
		o := api.Op{Op: kind}
		switch kind {
		case api.Many:
			o.N = 1
		case api.If, api.Else, api.End:
			want = api.ErrSyntax
		}
		checks(t, "an op by itself", []api.Op{o}, want)
	}
	checks(t, "no ops", nil, api.OK)
	checks(t, "no ops, not nil", []api.Op{}, api.OK)
	checks(t, "all together", script(push(1, 2), api.Dup, api.Drop, api.Swap, api.Equal, api.Must, api.Hash, api.Signed, many(2), after(7), api.If, api.Not, api.Else, api.Drop, api.End), api.OK)
}

// TestLK1NoOp: what is none of them, with all numbers near, and the least and greatest.
func TestLK1NoOp(t *testing.T) {
	for _, kind := range []int{0, -1, 15, 16, 255, 256, 257, 1 << 32, 1<<32 + 1, math.MaxInt, math.MinInt, math.MinInt + 1} {
		checks(t, "no op", ops(kind), api.ErrSyntax)
		checks(t, "no op, behind others", script(push(1), kind, api.Not), api.ErrSyntax)
	}
}

func TestLK1ManyOps(t *testing.T) {
	for n := range 130 {
		want := api.OK
		if n > 60 {
			want = api.ErrFull
		}
		checks(t, "so many", times(n, api.Op{Op: api.Not}), want)
		checks(t, "so many Push", times(n, push(1)), want)
	}
	checks(t, "60 with pairs", script(times(20, api.Op{Op: api.If}), times(20, api.Op{Op: api.Not}), times(20, api.Op{Op: api.End})), api.OK)
	checks(t, "30 pairs", script(times(30, api.Op{Op: api.If}), times(30, api.Op{Op: api.End})), api.OK)
	checks(t, "61 of which all are wrong", times(61, api.Op{Op: 99, N: 3, Data: make([]byte, 301)}), api.ErrFull)
	checks(t, "61, not in pairs", times(61, api.Op{Op: api.If}), api.ErrFull)
	checks(t, "61, out of range", times(61, many(10)), api.ErrFull)
}

func TestLK1Data(t *testing.T) {
	for n, want := range map[int]api.Errno{0: api.OK, 1: api.OK, 32: api.OK, 299: api.OK, 300: api.OK, 301: api.ErrFull, 302: api.ErrFull, 3000: api.ErrFull} {
		checks(t, "Push of so many", []api.Op{push(make([]byte, n)...)}, want)
		checks(t, "Push of so many, behind others", script(push(1), push(bytes.Repeat([]byte{7}, n)...)), want)
	}
	for kind := api.Dup; kind <= api.Not; kind++ {
		for _, n := range []int{1, 300, 301} {
			o := api.Op{Op: kind, Data: make([]byte, n)}
			if kind == api.Many {
				o.N = 1
			}
			checks(t, "Data where there should be none", []api.Op{o}, api.ErrSyntax)
		}
		// An empty list and nil are the same.
		o := api.Op{Op: kind, Data: []byte{}}
		if kind == api.Many {
			o.N = 1
		}
		if kind < api.If || kind > api.End {
			checks(t, "empty Data", []api.Op{o}, api.OK)
		}
	}
}

func TestLK1Numbers(t *testing.T) {
	for kind := api.Push; kind <= api.Not; kind++ {
		if kind == api.Many || kind == api.After {
			continue
		}
		for _, n := range []int{1, -1, 9, 1 << 32, math.MaxInt, math.MinInt} {
			checks(t, "N where there should be none", []api.Op{{Op: kind, N: n}}, api.ErrSyntax)
		}
	}
	// In pairs there is nothing else wrong with these.
	for at := range 3 {
		l := ops(api.If, api.Else, api.End)
		l[at].N = 1
		checks(t, "N of a pair", l, api.ErrSyntax)
	}
	for n := 1; n <= 9; n++ {
		checks(t, "Many", []api.Op{many(n)}, api.OK)
	}
	for _, n := range []int{0, -1, 10, 11, 1<<32 + 1, math.MaxInt, math.MinInt} {
		checks(t, "Many out of range", []api.Op{many(n)}, api.ErrRange)
	}
	for _, n := range []int{0, 1, 10, api.MaxHeight - 1, api.MaxHeight} {
		checks(t, "After", []api.Op{after(n)}, api.OK)
	}
	for _, n := range []int{-1, -2, api.MaxHeight + 1, 1 << 32, math.MaxInt, math.MinInt} {
		checks(t, "After out of range", []api.Op{after(n)}, api.ErrRange)
	}
}

// TestLK1FirstError: which error is told where two are to be told.
func TestLK1FirstError(t *testing.T) {
	long := make([]byte, 301)
	whole := []struct {
		name string
		l    []api.Op
		want api.Errno
	}{
		{"no op, too long", []api.Op{{Op: 0, Data: long}}, api.ErrSyntax},
		{"no op, with N", []api.Op{{Op: 15, N: 1 << 40}}, api.ErrSyntax},
		{"Push with N, too long", []api.Op{{Op: api.Push, N: 1, Data: long}}, api.ErrSyntax},
		{"Many with Data, out of range", []api.Op{{Op: api.Many, N: 10, Data: []byte{1}}}, api.ErrSyntax},
		{"Many with too much Data, out of range", []api.Op{{Op: api.Many, N: 0, Data: long}}, api.ErrSyntax},
		{"After with Data, out of range", []api.Op{{Op: api.After, N: -1, Data: long}}, api.ErrSyntax},
		{"out of range, then no op", script(many(0), 0), api.ErrRange},
		{"no op, then out of range", script(0, many(0)), api.ErrSyntax},
		{"too long, then no op", script(push(long...), 0), api.ErrFull},
		{"no op, then too long", script(0, push(long...)), api.ErrSyntax},
		{"too long, then out of range", script(push(long...), after(-1)), api.ErrFull},
		{"out of range, then too long", script(after(-1), push(long...)), api.ErrRange},
		{"not in pairs, then out of range", script(api.End, many(10)), api.ErrRange},
		{"not in pairs, then too long", script(api.If, push(long...)), api.ErrFull},
		{"out of range, then not in pairs", script(many(10), api.Else), api.ErrRange},
		{"two Else, then too long, then out of range", script(api.If, api.Else, api.Else, push(long...), many(10), api.End), api.ErrFull},
		{"the first one wrong, and the last one of 60", script(after(-1), times(58, push()), 77), api.ErrRange},
		{"the last one of 60 wrong", script(times(59, push()), after(-1)), api.ErrRange},
	}
	for _, w := range whole {
		checks(t, w.name, w.l, w.want)
	}
}

func TestLK1Pairs(t *testing.T) {
	good := [][]int{
		{api.If, api.End},
		{api.If, api.Else, api.End},
		{api.If, api.If, api.End, api.Else, api.If, api.Else, api.End, api.End},
		{api.If, api.If, api.Else, api.End, api.Else, api.End},
		{api.If, api.End, api.If, api.Else, api.End, api.Not},
		{api.If, api.If, api.If, api.End, api.End, api.End},
	}
	for _, kinds := range good {
		checks(t, "in pairs", ops(kinds...), api.OK)
	}
	bad := [][]int{
		{api.If},
		{api.Else},
		{api.End},
		{api.End, api.If},
		{api.If, api.Else},
		{api.Else, api.End},
		{api.If, api.End, api.End},
		{api.If, api.End, api.Else},
		{api.If, api.If, api.End},
		{api.If, api.Else, api.Else, api.End},
		{api.If, api.Else, api.If, api.End, api.Else, api.End},
		{api.Else, api.If, api.End, api.End},
		{api.If, api.End, api.Else, api.If, api.End},
		{api.If, api.If, api.Else, api.Else, api.End, api.End},
	}
	for _, kinds := range bad {
		checks(t, "not in pairs", ops(kinds...), api.ErrSyntax)
	}
}

// TestLK1AllOrders: If, Else, End and another op in every order, up to eight of them.
func TestLK1AllOrders(t *testing.T) {
	kinds := []int{api.If, api.Else, api.End, api.Not}
	orders := 1
	for n := range 9 {
		for order := range orders {
			var l []api.Op
			for left := order; len(l) < n; left /= 4 {
				l = append(l, api.Op{Op: kinds[left%4]})
			}
			want := api.ErrSyntax
			if otherPairs(l) {
				want = api.OK
			}
			if got := Check(l); plain.Told(got) != want {
				t.Fatalf("%v: got %v, want %v", l, got, want)
			}
		}
		orders *= 4
	}
}

// TestLK1EachOpNumberAndData: all kinds of all three together.
func TestLK1EachOpNumberAndData(t *testing.T) {
	for kind := -2; kind <= 17; kind++ {
		for _, n := range []int{math.MinInt, -1, 0, 1, 8, 9, 10, api.MaxHeight, api.MaxHeight + 1, math.MaxInt} {
			for _, size := range []int{0, 1, 300, 301} {
				l := []api.Op{{Op: kind, N: n, Data: make([]byte, size)}}
				if got, want := plain.Told(Check(l)), otherCheck(l); got != want {
					t.Errorf("Op %d, N %d, %d bytes: got %v, want %v", kind, n, size, got, want)
				}
			}
		}
	}
}

// TestLK2CheckKeys: the keys by themselves, with no lock.
func TestLK2CheckKeys(t *testing.T) {
	for n, want := range map[int]api.Errno{0: api.OK, 1: api.OK, 30: api.OK, 31: api.ErrFull, 300: api.ErrFull} {
		if got := CheckKeys(make([][]byte, n)); plain.Told(got) != want {
			t.Errorf("%d keys: got %v, want %v", n, got, want)
		}
	}
	for size, want := range map[int]api.Errno{0: api.OK, 1: api.OK, 3000: api.OK, 3001: api.ErrFull} {
		for at := range 3 {
			keys := make([][]byte, 3)
			keys[at] = make([]byte, size)
			if got := CheckKeys(keys); plain.Told(got) != want {
				t.Errorf("key %d of %d bytes: got %v, want %v", at, size, got, want)
			}
		}
	}
}
