package tx

import (
	"bytes"
	"fmt"
	"math"
	"slices"
	"testing"

	"moneyer/api"
	"moneyer/plain"
)

// tells holds what all four calls tell of a payment: Check this; Bytes and ID the same, or what the other program tells; Read of what would be its bytes it again, or ErrSyntax.
func tells(t *testing.T, name string, p api.Tx, want api.Errno) {
	t.Helper()
	if err := Check(p); plain.Told(err) != want {
		t.Errorf("%s: Check tells %v, want %v", name, err, want)
	}
	if other := otherCheck(p); other != want {
		t.Errorf("%s: the other program tells %v, want %v", name, other, want)
	}
	b, err := Bytes(p)
	id, idErr := ID(p)
	if plain.Told(err) != want || plain.Told(idErr) != want {
		t.Errorf("%s: Bytes and ID tell %v and %v, want %v", name, err, idErr, want)
	}
	if want != api.OK {
		if len(b) != 0 || id != (api.Digest{}) {
			t.Errorf("%s: Bytes and ID tell something with the error: %v, %v", name, b, id)
		}
		reads(t, name, otherBytes(p), api.Tx{}, api.ErrSyntax)
		return
	}
	if !bytes.Equal(b, otherBytes(p)) {
		t.Errorf("%s: Bytes tells other bytes than the other program", name)
	}
	if id != otherID(p) {
		t.Errorf("%s: ID tells %x, want %x", name, id, otherID(p))
	}
	reads(t, name, b, p, api.OK)
}

// reads holds what Read tells.
func reads(t *testing.T, name string, b []byte, want api.Tx, wrong api.Errno) {
	t.Helper()
	got, err := Read(b)
	if !same(got, want) || plain.Told(err) != wrong {
		t.Errorf("%s: Read tells %s, %v, want %s, %v", name, brief(got), err, brief(want), wrong)
	}
	other, otherWrong := otherRead(b)
	if !same(other, want) || otherWrong != wrong {
		t.Errorf("%s: the other program reads %s, %v, want %s, %v", name, brief(other), otherWrong, brief(want), wrong)
	}
}

// readsAsOther holds that Read tells what the other program does, and gives the error of it.
func readsAsOther(t *testing.T, name string, b []byte) api.Errno {
	t.Helper()
	want, wrong := otherRead(b)
	got, err := Read(b)
	if !same(got, want) || plain.Told(err) != wrong {
		t.Errorf("%s: Read tells %s, %v, want %s, %v", name, brief(got), err, brief(want), wrong)
	}
	return wrong
}

// brief: a payment as text, or where it begins.
func brief(p api.Tx) string {
	return fmt.Sprintf("%.400s", fmt.Sprint(p))
}

// with: a payment of three ins and three outs, changed.
func with(change func(p *api.Tx)) api.Tx {
	p := wide(3, 3)
	change(&p)
	return p
}

func TestTX1Samples(t *testing.T) {
	for name, p := range samples() {
		tells(t, name, p, api.OK)
	}
	tells(t, "the greatest", greatest(), api.OK)
}

func TestTX1Parts(t *testing.T) {
	for _, ins := range []int{0, 1, 2, 39, 40, 41, 42, 253, 1000} {
		for _, outs := range []int{0, 1, 2, 39, 40, 41, 42, 253, 1000} {
			want := api.OK
			switch {
			case ins > 40 || outs > 40:
				want = api.ErrFull
			case outs == 0:
				want = api.ErrNone
			}
			tells(t, "so many ins and outs", wide(ins, outs), want)
		}
	}
	tells(t, "nothing at all", api.Tx{}, api.ErrNone)
	tells(t, "no outs, not nil", api.Tx{Outs: []api.Out{}}, api.ErrNone)
}

func TestTX1Time(t *testing.T) {
	for _, time := range []int{0, 1, 252, 253, 65535, 65536, 1<<30 - 1, 1 << 30} {
		tells(t, "a time", with(func(p *api.Tx) { p.Time = time }), api.OK)
	}
	for _, time := range []int{-1, -2, 1<<30 + 1, 1 << 32, math.MaxInt, math.MinInt} {
		tells(t, "no time", with(func(p *api.Tx) { p.Time = time }), api.ErrRange)
	}
}

func TestTX1At(t *testing.T) {
	for in := range 3 {
		for _, at := range []int{10, 38, 39} {
			tells(t, "a place", with(func(p *api.Tx) { p.Ins[in].From.At = at }), api.OK)
		}
		for _, at := range []int{-1, -40, 40, 41, 252, 253, 256, 1 << 32, math.MaxInt, math.MinInt} {
			tells(t, "no place", with(func(p *api.Tx) { p.Ins[in].From.At = at }), api.ErrRange)
		}
	}
	for at := range 40 {
		tells(t, "each place", api.Tx{Ins: []api.In{from(0, at)}, Outs: []api.Out{pay(1)}}, api.OK)
	}
}

// TestTX1Twice: each two of 40, the keys being the same or not.
func TestTX1Twice(t *testing.T) {
	for second := range 40 {
		for first := range second {
			p := wide(40, 1)
			p.Ins[second].From = p.Ins[first].From
			if err := Check(p); plain.Told(err) != api.ErrTwice || otherCheck(p) != api.ErrTwice {
				t.Errorf("ins %d and %d: got %v, want ErrTwice", first, second, err)
			}
		}
	}
	p := wide(3, 1)
	p.Ins[2] = p.Ins[0]
	tells(t, "the same in twice", p, api.ErrTwice)
	p.Ins[2].Keys = [][]byte{{9}, {8}}
	tells(t, "the same place twice, with other keys", p, api.ErrTwice)
	p.Ins = slices.Repeat(p.Ins[:1], 40)
	tells(t, "the same in 40 times", p, api.ErrTwice)
	p.Ins = []api.In{{}, {}}
	tells(t, "the least place twice", p, api.ErrTwice)
}

// TestTX1NotTwice: places of which only one byte, or only At, is not the same.
func TestTX1NotTwice(t *testing.T) {
	for at := range 32 {
		p := api.Tx{Ins: []api.In{from(5, 6), from(5, 6)}, Outs: []api.Out{pay(1)}}
		p.Ins[1].From.Tx[at] ^= 128
		tells(t, "one byte is not the same", p, api.OK)
	}
	var p api.Tx
	p.Outs = []api.Out{pay(1)}
	for at := range 40 {
		p.Ins = append(p.Ins, from(5, at, []byte("the same key")))
	}
	tells(t, "40 places of one payment", p, api.OK)
	slices.Reverse(p.Ins)
	tells(t, "40 places, the last one first", p, api.OK)
	// Two outs may be the same, as they stand at places of their own.
	p.Outs = slices.Repeat([]api.Out{pay(7, push(1))}, 40)
	tells(t, "the same out 40 times", p, api.OK)
}

func TestTX1Keys(t *testing.T) {
	for in := range 3 {
		for _, n := range []int{0, 1, 2, 29, 30, 31, 32, 253, 300} {
			want := api.OK
			if n > 30 {
				want = api.ErrFull
			}
			tells(t, "so many keys", with(func(p *api.Tx) { p.Ins[in].Keys = slices.Repeat([][]byte{{1, 2}}, n) }), want)
			tells(t, "so many keys of nothing", with(func(p *api.Tx) { p.Ins[in].Keys = make([][]byte, n) }), want)
		}
		for _, size := range []int{0, 1, 252, 253, 2144, 2999, 3000, 3001, 3002, 4999} {
			want := api.OK
			if size > 3000 {
				want = api.ErrFull
			}
			for at := range 3 {
				keys := [][]byte{{1}, {2}, {3}}
				keys[at] = fill(size)
				tells(t, "a long key", with(func(p *api.Tx) { p.Ins[in].Keys = keys }), want)
			}
		}
	}
}

func TestTX1Amount(t *testing.T) {
	for out := range 3 {
		for _, n := range slices.Concat(edges, []int{1<<50 - 1, 1 << 50}) {
			tells(t, "an amount", with(func(p *api.Tx) { p.Outs[out].Amount = n }), api.OK)
		}
		for _, n := range []int{-1, -2, 1<<50 + 1, 1 << 51, math.MaxInt, math.MinInt} {
			tells(t, "no amount", with(func(p *api.Tx) { p.Outs[out].Amount = n }), api.ErrRange)
		}
	}
	// What all outs are together is not asked here.
	p := wide(0, 40)
	for i := range p.Outs {
		p.Outs[i].Amount = 1 << 50
	}
	tells(t, "40 times the greatest amount", p, api.OK)
}

func TestTX1Lock(t *testing.T) {
	whole := []struct {
		name string
		l    []api.Op
		want api.Errno
	}{
		{"no ops", nil, api.OK},
		{"60 ops", slices.Repeat([]api.Op{op(api.Dup)}, 60), api.OK},
		{"61 ops", slices.Repeat([]api.Op{op(api.Dup)}, 61), api.ErrFull},
		{"300 ops", slices.Repeat([]api.Op{op(api.Dup)}, 300), api.ErrFull},
		{"no op", []api.Op{op(0)}, api.ErrSyntax},
		{"the last op", []api.Op{op(14)}, api.OK},
		{"behind the last op", []api.Op{op(15)}, api.ErrSyntax},
		{"below all ops", []api.Op{op(-1)}, api.ErrSyntax},
		{"far above all ops", []api.Op{op(1<<32 + 1)}, api.ErrSyntax},
		{"Push with N", []api.Op{{Op: api.Push, N: 1}}, api.ErrSyntax},
		{"Dup with N below 0", []api.Op{{Op: api.Dup, N: -1}}, api.ErrSyntax},
		{"Dup with Data", []api.Op{{Op: api.Dup, Data: []byte{1}}}, api.ErrSyntax},
		{"Dup with empty Data", []api.Op{{Op: api.Dup, Data: []byte{}}}, api.OK},
		{"Push of 252", []api.Op{push(fill(252)...)}, api.OK},
		{"Push of 253", []api.Op{push(fill(253)...)}, api.OK},
		{"Push of 300", []api.Op{push(fill(300)...)}, api.OK},
		{"Push of 301", []api.Op{push(fill(301)...)}, api.ErrFull},
		{"Many of 0", []api.Op{many(0)}, api.ErrRange},
		{"Many of 1", []api.Op{many(1)}, api.OK},
		{"Many of 9", []api.Op{many(9)}, api.OK},
		{"Many of 10", []api.Op{many(10)}, api.ErrRange},
		{"After -1", []api.Op{after(-1)}, api.ErrRange},
		{"After 0", []api.Op{after(0)}, api.OK},
		{"After the greatest height", []api.Op{after(1 << 30)}, api.OK},
		{"After one more", []api.Op{after(1<<30 + 1)}, api.ErrRange},
		{"in pairs", []api.Op{op(api.If), op(api.Else), op(api.End)}, api.OK},
		{"not in pairs", []api.Op{op(api.If), op(api.Else)}, api.ErrSyntax},
		{"two Else", []api.Op{op(api.If), op(api.Else), op(api.Else), op(api.End)}, api.ErrSyntax},
	}
	for _, w := range whole {
		for out := range 3 {
			tells(t, w.name, with(func(p *api.Tx) { p.Outs[out].Lock = w.l }), w.want)
		}
	}
}

// fault of a payment of three ins and three outs.
type fault struct {
	name string
	of   string // two faults of the same can not be there together
	want api.Errno
	make func(p *api.Tx)
}

// faults: in the order in which they are to be told.
func faults() []fault {
	all := []fault{
		{"41 ins", "ins", api.ErrFull, func(p *api.Tx) { p.Ins = append(p.Ins, wide(41, 0).Ins[3:]...) }},
		{"41 outs", "outs", api.ErrFull, func(p *api.Tx) { p.Outs = append(p.Outs, wide(0, 41).Outs[3:]...) }},
		{"no outs", "outs", api.ErrNone, func(p *api.Tx) { p.Outs = nil }},
		{"Time below", "time", api.ErrRange, func(p *api.Tx) { p.Time = -1 }},
		{"Time above", "time", api.ErrRange, func(p *api.Tx) { p.Time = api.MaxHeight + 1 }},
	}
	for i, name := range []string{"in 0", "in 1", "in 2"} {
		all = append(all, fault{name + " At", name, api.ErrRange, func(p *api.Tx) { p.Ins[i].From.At = 40 }})
		if i > 0 {
			// As in 0 is, of which At may be wrong: then that is told first.
			all = append(all, fault{name + " twice", name, api.ErrTwice, func(p *api.Tx) { p.Ins[i].From = p.Ins[0].From }})
		}
		all = append(all,
			fault{name + " keys", name + " keys", api.ErrFull, func(p *api.Tx) { p.Ins[i].Keys = make([][]byte, 31) }},
			fault{name + " long key", name + " keys", api.ErrFull, func(p *api.Tx) { p.Ins[i].Keys = [][]byte{fill(3001)} }})
	}
	for i, name := range []string{"out 0", "out 1", "out 2"} {
		all = append(all,
			fault{name + " amount", name, api.ErrRange, func(p *api.Tx) { p.Outs[i].Amount = -1 }},
			fault{name + " no lock", name + " lock", api.ErrSyntax, func(p *api.Tx) { p.Outs[i].Lock = []api.Op{op(0)} }},
			fault{name + " long lock", name + " lock", api.ErrFull, func(p *api.Tx) { p.Outs[i].Lock = make([]api.Op, 61) }},
			fault{name + " lock out of range", name + " lock", api.ErrRange, func(p *api.Tx) { p.Outs[i].Lock = []api.Op{many(10)} }})
	}
	return all
}

// TestTX1FirstError: each fault by itself, and each two together, of which the one that is named first is told.
func TestTX1FirstError(t *testing.T) {
	all := faults()
	for i, first := range all {
		tells(t, first.name, with(first.make), first.want)
		for _, second := range all[i+1:] {
			if first.of == second.of || first.name == "no outs" && second.of[:3] == "out" {
				continue
			}
			tells(t, first.name+", "+second.name, with(func(p *api.Tx) { first.make(p); second.make(p) }), first.want)
		}
	}
}

// TestTX1OutOfRangeTwice: a place that is none, twice, is told as the one that it is first.
func TestTX1OutOfRangeTwice(t *testing.T) {
	for _, at := range []int{-1, 40, math.MaxInt} {
		tells(t, "no place twice", with(func(p *api.Tx) {
			p.Ins[0].From.At = at
			p.Ins[1].From = p.Ins[0].From
		}), api.ErrRange)
	}
	tells(t, "twice, with too many keys at both", with(func(p *api.Tx) {
		p.Ins[0].Keys = make([][]byte, 31)
		p.Ins[1] = p.Ins[0]
	}), api.ErrFull)
	tells(t, "twice, with too many keys at the second one", with(func(p *api.Tx) {
		p.Ins[1] = api.In{From: p.Ins[0].From, Keys: make([][]byte, 31)}
	}), api.ErrTwice)
}
