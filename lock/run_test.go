package lock

import (
	"bytes"
	"crypto/sha256"
	"math"
	"math/rand"
	"slices"
	"testing"

	"moneyer/api"
	"moneyer/key"
	"moneyer/plain"
)

// hand: what is at hand, the last one on top.
func hand(things ...[]byte) [][]byte { return things }

var (
	yes = []byte{1}
	no  = []byte(nil)
)

// runs holds what Run tells of the tests' digest at a height, and what the other program does.
func runs(t *testing.T, name string, l []api.Op, keys [][]byte, height int, want api.Errno) {
	t.Helper()
	if got := Run(l, keys, text(), height); plain.Told(got) != want {
		t.Errorf("%s: got %v, want %v", name, got, want)
	}
	if other := otherRun(l, keys, text(), height); other != want {
		t.Errorf("%s: the other program tells %v, want %v", name, other, want)
	}
}

// leaves holds that a lock leaves just these at hand, to the byte.
func leaves(t *testing.T, name string, l []api.Op, keys [][]byte, left ...[]byte) {
	t.Helper()
	whole := slices.Clone(l)
	for _, thing := range slices.Backward(left) {
		whole = append(whole, push(thing...), api.Op{Op: api.Equal}, api.Op{Op: api.Must})
	}
	runs(t, name, append(whole, push(1)), keys, 0, api.OK)
}

// digest: what Hash is to tell.
func digest(b []byte) []byte {
	d := sha256.Sum256(b)
	return d[:]
}

func TestLK2KeysAtHand(t *testing.T) {
	leaves(t, "no keys", nil, nil)
	leaves(t, "no keys, not nil", []api.Op{}, [][]byte{})
	leaves(t, "one", nil, hand([]byte("a")), []byte("a"))
	leaves(t, "the last one on top", nil, hand([]byte("a"), []byte("b"), []byte("c")), []byte("a"), []byte("b"), []byte("c"))
	leaves(t, "an empty one, and nil", nil, hand([]byte{}, nil, []byte{0}), no, no, []byte{0})
	// Of 30 just the last one is on top, and all are there.
	var all [][]byte
	for i := range 30 {
		all = append(all, []byte{byte(i + 1)})
	}
	var l []api.Op
	for i := range 29 {
		l = append(l, api.Op{Op: api.Drop})
		runs(t, "29 less one by one", l, all[:i+2], 0, api.OK)
	}
	runs(t, "30, of which one is left", script(times(29, api.Op{Op: api.Drop}), push(1), api.Equal), all, 0, api.OK)
}

func TestLK2Full(t *testing.T) {
	drops := times(29, api.Op{Op: api.Drop})
	ones := func(n int) [][]byte { return slices.Repeat(hand(yes), n) }
	runs(t, "30 keys", drops, ones(30), 0, api.OK)
	runs(t, "31 keys", script(drops, api.Drop), ones(31), 0, api.ErrFull)
	runs(t, "300 keys", drops, ones(300), 0, api.ErrFull)
	runs(t, "31 keys of nothing", nil, make([][]byte, 31), 0, api.ErrFull)
	runs(t, "30 keys of nothing", nil, make([][]byte, 30), 0, api.ErrLock)
	for size, want := range map[int]api.Errno{2999: api.OK, 3000: api.OK, 3001: api.ErrFull, 6000: api.ErrFull} {
		long := bytes.Repeat(yes, size)
		runs(t, "a long key", nil, hand(long), 0, want)
		runs(t, "a long key below", ops(api.Drop), hand(yes, long), 0, want)
		runs(t, "a long key on top", ops(api.Swap, api.Drop), hand(long, yes), 0, want)
		runs(t, "30 long keys", drops, slices.Repeat(hand(long), 30), 0, want)
	}
}

// TestLK2FullAtHand: 30 at hand and 31, by Push and by Dup, and as many again behind a Drop.
func TestLK2FullAtHand(t *testing.T) {
	drops := times(29, api.Op{Op: api.Drop})
	for _, more := range []api.Op{push(1), push(), {Op: api.Dup}} {
		ones := func(n int) [][]byte { return slices.Repeat(hand(yes), n) }
		runs(t, "to 30", script(more, drops), ones(29), 0, api.OK)
		runs(t, "to 31", script(more, drops, api.Drop), ones(30), 0, api.ErrFull)
		runs(t, "to 31, the next op none that can be done", script(more, api.Not, after(9), drops), ones(30), 0, api.ErrFull)
		runs(t, "to 30 again and again", script(api.Drop, more, api.Drop, more, drops), ones(30), 0, api.OK)
		runs(t, "by ops alone to 30", script(push(1), times(29, api.Op{Op: api.Dup}), drops), nil, 0, api.OK)
		runs(t, "by ops alone to 31", script(push(1), times(30, api.Op{Op: api.Dup}), drops), nil, 0, api.ErrFull)
		runs(t, "to 31 in the way that is not done", script(push(), api.If, more, more, api.End, drops[:28]), ones(29), 0, api.OK)
		runs(t, "to 31 in the way that is done", script(push(1), api.If, more, more, api.End, drops), ones(29), 0, api.ErrFull)
	}
	// What is told stands in the place of what was taken.
	full := slices.Repeat(hand(yes), 30)
	for _, same := range []int{api.Not, api.Hash, api.Swap} {
		runs(t, "30 stay 30", script(same, same, drops), full, 0, api.OK)
	}
	runs(t, "After at 30", script(after(0), drops), full, 0, api.OK)
}

// TestLK2NotAtHand: each op with each count of things below what it takes, and just that.
func TestLK2NotAtHand(t *testing.T) {
	need := map[int]int{api.Dup: 1, api.Drop: 1, api.Swap: 2, api.Equal: 2, api.Must: 1, api.Hash: 1, api.Signed: 2, api.Not: 1}
	for kind, n := range need {
		for have := range 4 {
			keys := slices.Repeat(hand(yes), have)
			if have < n {
				runs(t, "too few", ops(kind), keys, 0, api.ErrLock)
				runs(t, "too few, and a thing behind it", script(kind, push(1)), keys, 0, api.ErrLock)
				runs(t, "too few, and too early behind it", script(kind, after(9)), keys, 0, api.ErrLock)
				continue
			}
			left := map[int]int{api.Dup: have + 1, api.Drop: have - 1, api.Swap: have, api.Equal: have - 1, api.Must: have - 1, api.Hash: have, api.Signed: have - 1, api.Not: have}[kind]
			runs(t, "enough", script(kind, times(left, api.Op{Op: api.Drop}), push(1)), keys, 0, api.OK)
			runs(t, "enough, but one less is left", script(kind, times(left+1, api.Op{Op: api.Drop}), push(1)), keys, 0, api.ErrLock)
		}
	}
	for n := 1; n <= 9; n++ {
		for have := range n + 3 {
			keys := slices.Repeat(hand(yes), have)
			if have < n+1 {
				runs(t, "Many of too few", script(many(n), push(1)), keys, 0, api.ErrLock)
				continue
			}
			runs(t, "Many of enough", script(many(n), times(have-n, api.Op{Op: api.Drop}), push(1)), keys, 0, api.OK)
			runs(t, "Many of enough, but one less is left", script(many(n), times(have-n+1, api.Op{Op: api.Drop}), push(1)), keys, 0, api.ErrLock)
		}
	}
	for _, way := range [][]int{{api.If, api.End}, {api.If, api.Else, api.End}} {
		runs(t, "If of nothing", script(way[0], push(1), ops(way[1:]...)), nil, 0, api.ErrLock)
	}
	leaves(t, "Push takes nothing", script(push(7)), nil, []byte{7})
	leaves(t, "After takes nothing", script(after(0)), nil)
}

// TestLK2True: what has a byte that is not 0, and nothing else.
func TestLK2True(t *testing.T) {
	for size := range 40 {
		runs(t, "bytes 0", nil, hand(make([]byte, size)), 0, api.ErrLock)
		runs(t, "bytes 0, by Push", []api.Op{push(make([]byte, size)...)}, nil, 0, api.ErrLock)
		leaves(t, "bytes 0, told", ops(api.Not), hand(make([]byte, size)), yes)
		for at := range size {
			for _, b := range []byte{1, 2, 128, 255} {
				thing := make([]byte, size)
				thing[at] = b
				runs(t, "one byte that is not 0", nil, hand(thing), 0, api.OK)
				leaves(t, "one byte that is not 0, told", ops(api.Not), hand(thing), no)
				runs(t, "one byte that is not 0, that must be", script(api.Must, push(1)), hand(thing), 0, api.OK)
				leaves(t, "one byte that is not 0, which way", script(api.If, push(7), api.Else, push(8), api.End), hand(thing), []byte{7})
			}
		}
	}
	for b := range 256 {
		want := api.OK
		if b == 0 {
			want = api.ErrLock
		}
		runs(t, "one byte", nil, hand([]byte{byte(b)}), 0, want)
	}
	last := make([]byte, 3000)
	runs(t, "3000 bytes 0", nil, hand(last), 0, api.ErrLock)
	last[2999] = 1
	runs(t, "the last one of 3000 bytes", nil, hand(last), 0, api.OK)
}

// TestLK2CheckFirst: a lock that is none is told ahead of keys that are too many, and these ahead of what the ops tell.
func TestLK2CheckFirst(t *testing.T) {
	tooMany, tooLong := make([][]byte, 31), hand(make([]byte, 3001))
	for _, keys := range [][][]byte{tooMany, tooLong} {
		runs(t, "no op", ops(0), keys, 0, api.ErrSyntax)
		runs(t, "out of range", script(many(0)), keys, 0, api.ErrRange)
		runs(t, "not in pairs", ops(api.If), keys, 0, api.ErrSyntax)
		runs(t, "too early", script(after(9)), keys, 0, api.ErrFull)
		runs(t, "not true", ops(api.Must), keys, 0, api.ErrFull)
		runs(t, "no ops", nil, keys, 0, api.ErrFull)
	}
	runs(t, "wrong behind what does not open", script(push(), api.Must, 0), nil, 0, api.ErrSyntax)
	runs(t, "wrong in the way that is not done", script(push(), api.If, many(10), api.End), nil, 0, api.ErrRange)
	runs(t, "not in pairs behind what does not open", script(push(), api.Must, api.If), nil, 0, api.ErrSyntax)
	runs(t, "61 ops", times(61, api.Op{Op: api.Not}), hand(yes), 0, api.ErrFull)
	runs(t, "60 ops", times(60, api.Op{Op: api.Not}), hand(yes), 0, api.OK)
}

func TestLK3SimpleOps(t *testing.T) {
	a, b, c := []byte("a"), []byte("bb"), []byte("ccc")
	long := bytes.Repeat([]byte{3}, 300)
	leaves(t, "Push", script(push(a...), push(b...), push()), hand(c), c, a, b, no)
	leaves(t, "Push of 300", script(push(long...)), nil, long)
	leaves(t, "Dup", ops(api.Dup), hand(a, b), a, b, b)
	leaves(t, "Dup of nothing", ops(api.Dup), hand(no), no, no)
	leaves(t, "Drop", ops(api.Drop), hand(a, b), a)
	leaves(t, "Drop of the only one", ops(api.Drop), hand(a))
	leaves(t, "Swap", ops(api.Swap), hand(a, b, c), a, c, b)
	leaves(t, "Swap twice", ops(api.Swap, api.Swap), hand(a, b, c), a, b, c)
	leaves(t, "Swap of what Dup told", ops(api.Dup, api.Swap), hand(a, b), a, b, b)
	leaves(t, "together", script(api.Swap, api.Dup, push(1), api.Drop, api.Swap), hand(a, b), b, a, a)
}

func TestLK3Equal(t *testing.T) {
	a, b := []byte("text"), []byte("texT")
	leaves(t, "the same", ops(api.Equal), hand(a, bytes.Clone(a)), yes)
	leaves(t, "not the same", ops(api.Equal), hand(a, b), no)
	leaves(t, "a part", ops(api.Equal), hand(a, a[:3]), no)
	leaves(t, "a part, on top", ops(api.Equal), hand(a[:3], a), no)
	leaves(t, "nothing twice", ops(api.Equal), hand(nil, []byte{}), yes)
	leaves(t, "nothing and a byte 0", ops(api.Equal), hand(nil, []byte{0}), no)
	leaves(t, "both not true, not the same", ops(api.Equal), hand([]byte{0}, []byte{0, 0}), no)
	leaves(t, "both true, not the same", ops(api.Equal), hand([]byte{1}, []byte{2}), no)
	leaves(t, "both not true, the same", ops(api.Equal), hand([]byte{0, 0}, []byte{0, 0}), yes)
	leaves(t, "what is below stays", ops(api.Equal), hand(b, a, a), b, yes)
	long := bytes.Repeat([]byte{9}, 3000)
	other := bytes.Clone(long)
	other[2999]++
	leaves(t, "long ones", ops(api.Equal), hand(long, bytes.Clone(long)), yes)
	leaves(t, "long ones, the last byte not the same", ops(api.Equal), hand(long, other), no)
}

func TestLK3MustAndNot(t *testing.T) {
	for _, thing := range hand(nil, []byte{}, []byte{0}, make([]byte, 3000)) {
		runs(t, "Must of what is not true", script(api.Must, push(1)), hand(thing), 0, api.ErrLock)
		runs(t, "Must of what is not true, a true one below", ops(api.Must), hand(yes, thing), 0, api.ErrLock)
		leaves(t, "Not of what is not true", ops(api.Not), hand(thing), yes)
		leaves(t, "Not twice", ops(api.Not, api.Not), hand(thing), no)
	}
	for _, thing := range hand(yes, []byte{0, 0, 9}, []byte("text"), bytes.Repeat([]byte{255}, 3000)) {
		leaves(t, "Must of what is true", ops(api.Must), hand(yes, thing), yes)
		leaves(t, "Not of what is true", ops(api.Not), hand(thing), no)
		leaves(t, "Not twice", ops(api.Not, api.Not), hand(thing), yes)
	}
	runs(t, "Must, then too early", script(api.Must, after(9)), hand(no), 0, api.ErrLock)
	runs(t, "too early, then Must", script(after(9), api.Must), hand(no), 0, api.ErrEarly)
}

func TestLK3Hash(t *testing.T) {
	for _, thing := range hand(nil, []byte{}, []byte{0}, []byte("abc"), make([]byte, 64), bytes.Repeat([]byte{5}, 3000)) {
		leaves(t, "Hash", ops(api.Hash), hand(yes, thing), yes, digest(thing))
		leaves(t, "Hash twice", ops(api.Hash, api.Hash), hand(thing), digest(digest(thing)))
	}
	opens := script(api.Hash, push(digest([]byte("text"))...), api.Equal)
	runs(t, "who knows the text", opens, hand([]byte("text")), 0, api.OK)
	runs(t, "who does not", opens, hand([]byte("tex")), 0, api.ErrLock)
	runs(t, "who tells the digest", opens, hand(digest([]byte("text"))), 0, api.ErrLock)
}

func TestLK3Signed(t *testing.T) {
	all := signers(2)
	a, b := all[0], all[1]
	leaves(t, "signed", ops(api.Signed), hand(yes, a.sig, a.public), yes, yes)
	leaves(t, "signed, the key by Push", script(push(a.public...), api.Signed), hand(a.sig), yes)
	leaves(t, "by another one", ops(api.Signed), hand(a.sig, b.public), no)
	leaves(t, "the other way round", ops(api.Signed), hand(a.public, a.sig), no)
	for _, wrong := range hand(nil, a.public[:31], append(bytes.Clone(a.public), 0), publics(a, b), publics(a, a), publics(b, a)) {
		leaves(t, "a key that is none", ops(api.Signed), hand(a.sig, wrong), no)
	}
	for _, wrong := range hand(nil, a.sig[:2143], append(bytes.Clone(a.sig), 0), bytes.Repeat(a.sig, 2)[:3000], a.public) {
		leaves(t, "a signature that is none", ops(api.Signed), hand(wrong, a.public), no)
		leaves(t, "a signature that is none, and a key of bytes 0", ops(api.Signed), hand(wrong, make([]byte, 32)), no)
	}
	leaves(t, "no key, no signature", ops(api.Signed), hand(nil, nil), no)
	changed := bytes.Clone(a.sig)
	changed[2143] ^= 1
	leaves(t, "a signature with a bit changed", ops(api.Signed), hand(changed, a.public), no)
	another := key.Sign(a.seed, sha256.Sum256([]byte("another text")))
	leaves(t, "a signature of another text", ops(api.Signed), hand(another, a.public), no)
	// Bytes that nobody signed are by some key, too.
	some := bytes.Repeat([]byte{7}, 2144)
	by, err := key.Recover(text(), some)
	if err != nil {
		t.Fatal(err)
	}
	leaves(t, "what Recover tells", ops(api.Signed), hand(some, by[:]), yes)
}

// TestLK3SignedText: it is m that must be signed.
func TestLK3SignedText(t *testing.T) {
	seed := api.Digest{1}
	public := key.Public(seed)
	for _, m := range []api.Digest{{}, {9}, {31: 1}, text()} {
		l := script(push(public[:]...), api.Signed)
		if err := Run(l, hand(key.Sign(seed, m)), m, 0); err != nil {
			t.Errorf("%x: got %v", m, err)
		}
		other := m
		other[31] ^= 128
		if err := Run(l, hand(key.Sign(seed, m)), other, 0); plain.Told(err) != api.ErrLock {
			t.Errorf("%x: with another digest got %v", m, err)
		}
		l = script(push(public[:]...), many(1))
		if err := Run(l, hand(key.Sign(seed, m)), m, 0); err != nil {
			t.Errorf("%x: Many: got %v", m, err)
		}
		if err := Run(l, hand(key.Sign(seed, m)), other, 0); plain.Told(err) != api.ErrLock {
			t.Errorf("%x: Many: with another digest got %v", m, err)
		}
	}
}

// TestLK3ManyOfThree: all lists of one, two and three signatures of four signers, of whom three have a key there.
func TestLK3ManyOfThree(t *testing.T) {
	all := signers(4)
	keys := publics(all[:3]...)
	for n, orders := 1, 4; n <= 3; n, orders = n+1, orders*4 {
		for order := range orders {
			var who []int
			for left := order; len(who) < n; left /= 4 {
				who = append(who, left%4)
			}
			var at [][]byte
			told := yes
			for i, w := range who {
				at = append(at, all[w].sig)
				if w == 3 || i > 0 && w <= who[i-1] {
					told = no
				}
			}
			leaves(t, "so many of three", script(push(keys...), many(n)), append(hand(yes), at...), yes, told)
		}
	}
}

func TestLK3ManyOfMany(t *testing.T) {
	all := signers(9)
	for n := 1; n <= 9; n++ {
		own := publics(all[:n]...)
		leaves(t, "so many of as many", script(push(own...), many(n)), sigs(all[:n]...), yes)
		leaves(t, "the last ones of nine", script(push(publics(all...)...), many(n)), sigs(all[9-n:]...), yes)
		leaves(t, "the first ones of nine", script(push(publics(all...)...), many(n)), sigs(all[:n]...), yes)
		less := publics(all[:n-1]...)
		leaves(t, "one more than there are keys", script(push(less...), many(n)), sigs(all[:n]...), no)
		for wrong := range n {
			at := sigs(all[:n]...)
			at[wrong] = at[wrong][1:]
			leaves(t, "one of them no signature", script(push(own...), many(n)), at, no)
		}
		back := slices.Clone(all[:n])
		slices.Reverse(back)
		if n > 1 {
			twice := append(slices.Clone(all[:n-1]), all[n-2])
			leaves(t, "the last one twice", script(push(publics(all...)...), many(n)), sigs(twice...), no)
			leaves(t, "in another order", script(push(own...), many(n)), sigs(back...), no)
		}
		leaves(t, "in another order, as the keys", script(push(publics(back...)...), many(n)), sigs(back...), yes)
	}
	leaves(t, "what is below stays", script(push(publics(all[:3]...)...), many(2)), append(hand([]byte("a"), []byte("b")), sigs(all[:2]...)...), []byte("a"), []byte("b"), yes)
}

// TestLK3ManyKeys: keys that are none, or not a whole number of 32 bytes; more than Push can have.
func TestLK3ManyKeys(t *testing.T) {
	all := signers(3)
	a, b := all[0], all[1]
	two := publics(a, b)
	for size := range len(two) + 1 {
		told := no
		if size == 32 || size == 64 {
			told = yes
		}
		leaves(t, "so many bytes of keys", script(many(1)), hand(a.sig, two[:size]), told)
	}
	leaves(t, "a byte more", script(many(2)), hand(a.sig, b.sig, append(bytes.Clone(two), 0)), no)
	leaves(t, "a byte ahead", script(many(1)), hand(a.sig, append([]byte{0}, a.public...)), no)
	leaves(t, "a key that stands across two", script(many(1)), hand(a.sig, slices.Concat(make([]byte, 16), a.public, make([]byte, 16))), no)
	leaves(t, "no keys, no signatures", script(many(2)), hand(yes, nil, nil, nil), yes, no)
	leaves(t, "no keys, and one takes the signatures all the same", script(many(2)), hand([]byte("a"), a.sig, b.sig, nil), []byte("a"), no)
	leaves(t, "keys of bytes 0, and no signature", script(many(1)), hand(nil, make([]byte, 32)), no)
	last := slices.Concat(make([]byte, 32*92), a.public)
	leaves(t, "the last one of 93 keys", script(many(1)), hand(a.sig, last), yes)
	leaves(t, "93 keys, and a part of one", script(many(1)), hand(a.sig, append(last, make([]byte, 24)...)), no)
	leaves(t, "a signature twice", script(many(2)), hand(a.sig, a.sig, two), no)
	leaves(t, "a signature twice, its key at two places", script(many(2)), hand(a.sig, a.sig, publics(a, b, a)), yes)
	leaves(t, "three times, its key at two places", script(many(3)), hand(a.sig, a.sig, a.sig, publics(a, b, a)), no)
	leaves(t, "a key at two places, the other one between", script(many(2)), hand(b.sig, a.sig, publics(a, b, a)), yes)
}

func TestLK3After(t *testing.T) {
	for _, n := range []int{0, 1, 5, 1000, api.MaxHeight - 1, api.MaxHeight} {
		runs(t, "just then", script(after(n)), hand(yes), n, api.OK)
		runs(t, "later", script(after(n)), hand(yes), n+1, api.OK)
		runs(t, "much later", script(after(n)), hand(yes), math.MaxInt, api.OK)
		runs(t, "one below", script(after(n)), hand(yes), n-1, api.ErrEarly)
		runs(t, "far below", script(after(n)), hand(yes), math.MinInt, api.ErrEarly)
		runs(t, "one below, nothing at hand", script(after(n)), nil, n-1, api.ErrEarly)
		runs(t, "just then, nothing at hand", script(after(n)), nil, n, api.ErrLock)
	}
	leaves(t, "it tells nothing", script(after(0), after(0)), hand([]byte("a")), []byte("a"))
	runs(t, "the second one too early", script(after(3), after(4)), hand(yes), 3, api.ErrEarly)
	runs(t, "too early, then nothing to take", script(after(4), api.Drop, api.Drop), hand(yes), 3, api.ErrEarly)
	runs(t, "nothing to take, then too early", script(api.Drop, api.Drop, after(4)), hand(yes), 3, api.ErrLock)
	runs(t, "a height below 0", nil, hand(yes), -1, api.OK)
}

func TestLK3If(t *testing.T) {
	either := script(api.If, push(7), api.Else, push(8), api.End, push(9))
	leaves(t, "If", either, hand(yes), []byte{7}, []byte{9})
	leaves(t, "Else", either, hand(no), []byte{8}, []byte{9})
	leaves(t, "If takes one", either, hand(no, yes), no, []byte{7}, []byte{9})
	alone := script(api.If, push(7), api.End, push(9))
	leaves(t, "without Else, done", alone, hand(yes), []byte{7}, []byte{9})
	leaves(t, "without Else, not done", alone, hand(no), []byte{9})
	leaves(t, "of nothing, true", script(api.If, api.End), hand(yes))
	leaves(t, "of nothing, not true", script(api.If, api.Else, api.End), hand(no))
	leaves(t, "no ops ahead of Else", script(api.If, api.Else, push(8), api.End), hand(no), []byte{8})
	leaves(t, "no ops ahead of Else, true", script(api.If, api.Else, push(8), api.End), hand(yes))
	leaves(t, "no ops behind Else", script(api.If, push(7), api.Else, api.End), hand(yes), []byte{7})
	leaves(t, "one behind the other", script(either, api.Drop, api.Swap, either), hand(no, yes), []byte{7}, []byte{8}, []byte{9})
}

// TestLK3IfNotDone: in the way that is not done nothing is taken, nothing is told, nothing is wrong.
func TestLK3IfNotDone(t *testing.T) {
	bad := [][]api.Op{
		script(api.Drop, api.Drop, api.Drop),
		script(push(), api.Must),
		script(after(api.MaxHeight)),
		times(31, push(1)),
		script(many(9)),
		script(api.If, push(5), api.Else, push(6), api.End),
		script(api.If, api.If, api.Drop, api.Else, api.Drop, api.End, api.Else, api.Drop, api.End),
	}
	for _, ways := range bad {
		leaves(t, "ahead of Else", script(api.If, ways, api.Else, push(8), api.End), hand(no), []byte{8})
		leaves(t, "behind Else", script(api.If, push(7), api.Else, ways, api.End), hand(yes), []byte{7})
		leaves(t, "without Else", script(api.If, ways, api.End, push(9)), hand(no), []byte{9})
	}
}

// TestLK3IfWithin: one within the other, in each way of the outer one, with all three things true or not.
func TestLK3IfWithin(t *testing.T) {
	inner := func(n byte) []api.Op { return script(api.If, push(n), api.Else, push(n+1), api.End) }
	alone := func(n byte) []api.Op { return script(api.If, push(n), api.End) }
	for _, outer := range hand(no, yes) {
		for _, in := range hand(no, yes) {
			first := byte(10)
			if len(outer) == 0 {
				first = 20
			}
			told := first
			if len(in) == 0 {
				told++
			}
			leaves(t, "both with Else", script(api.If, inner(10), push(1), api.Else, inner(20), push(2), api.End), hand(in, outer), []byte{told}, []byte{first / 10})
			var left [][]byte
			if len(in) > 0 {
				left = hand([]byte{first})
			}
			leaves(t, "the inner ones without Else", script(api.If, alone(10), push(1), api.Else, alone(20), push(2), api.End), hand(in, outer), append(left, []byte{first / 10})...)
			both := hand(in)
			if len(outer) > 0 {
				both = hand([]byte{told})
			}
			leaves(t, "the outer one without Else", script(api.If, inner(10), api.End), hand(in, outer), both...)
		}
	}
	// As deep as 60 ops let it be: the innermost op is done, or the first way that is not.
	deep := script(times(29, api.Op{Op: api.If}), push(1), times(29, api.Op{Op: api.End}))
	runs(t, "29 deep", deep, slices.Repeat(hand(yes), 29), 0, api.OK)
	for at := range 29 {
		keys := slices.Repeat(hand(yes), 29)
		keys[at] = no
		want := api.ErrLock
		if at == 1 {
			want = api.OK // what is left below it is the one thing, and true
		}
		runs(t, "29 deep, one not true", deep, keys, 0, want)
	}
}

func TestLK4End(t *testing.T) {
	for _, l := range [][]api.Op{nil, {}, ops(api.Not, api.Not), script(after(0)), script(push(1), api.Drop)} {
		runs(t, "one, true", l, hand(yes), 0, api.OK)
		runs(t, "one of many bytes, true", l, hand([]byte{0, 0, 200, 0}), 0, api.OK)
		runs(t, "one, not true", l, hand([]byte{0}), 0, api.ErrLock)
		runs(t, "one, empty", l, hand(nil), 0, api.ErrLock)
		runs(t, "two, both true", l, hand(yes, yes), 0, api.ErrLock)
		runs(t, "two, the top one true", l, hand(no, yes), 0, api.ErrLock)
		runs(t, "two, the lower one true", l, hand(yes, no), 0, api.ErrLock)
	}
	runs(t, "thirty", nil, slices.Repeat(hand(yes), 30), 0, api.ErrLock)
	runs(t, "no ops, no keys", nil, nil, 0, api.ErrLock)
	runs(t, "no ops, no keys, not nil", []api.Op{}, [][]byte{}, 0, api.ErrLock)
	runs(t, "taken", ops(api.Drop), hand(yes), 0, api.ErrLock)
	runs(t, "taken by Must", ops(api.Must), hand(yes), 0, api.ErrLock)
	runs(t, "taken by If", ops(api.If, api.End), hand(yes), 0, api.ErrLock)
	runs(t, "two by Push", script(push(1), push(1)), nil, 0, api.ErrLock)
	runs(t, "what is told last, not true", ops(api.Equal), hand(yes, no), 0, api.ErrLock)
}

// TestSwapLock: a lock as deals have it, by either way.
func TestSwapLock(t *testing.T) {
	all := signers(3)
	owner, other, stranger := all[0], all[1], all[2]
	l := script(api.If, api.Hash, push(digest([]byte("secret"))...), api.Equal, api.Must, push(other.public...), api.Signed,
		api.Else, after(50), push(owner.public...), api.Signed, api.End)
	secret := []byte("secret")
	runs(t, "who knows the text", l, hand(other.sig, secret, yes), 0, api.OK)
	runs(t, "another text", l, hand(other.sig, []byte("guess"), yes), 0, api.ErrLock)
	runs(t, "another signature", l, hand(stranger.sig, secret, yes), 60, api.ErrLock)
	runs(t, "the owner with the text", l, hand(owner.sig, secret, yes), 60, api.ErrLock)
	runs(t, "the owner too early", l, hand(owner.sig, nil), 49, api.ErrEarly)
	runs(t, "the owner", l, hand(owner.sig, nil), 50, api.OK)
	runs(t, "the other one without the text", l, hand(other.sig, nil), 50, api.ErrLock)
	runs(t, "one thing too many", l, hand(yes, owner.sig, nil), 50, api.ErrLock)
	runs(t, "no signature", l, hand(nil), 50, api.ErrLock)
	runs(t, "nothing", l, nil, 50, api.ErrLock)
}

// TestP2NothingIsWritten: locks and keys stay as they are, and so does what lies behind their lengths.
func TestP2NothingIsWritten(t *testing.T) {
	all := signers(2)
	keep := func(b []byte) []byte { return append(bytes.Clone(b), 170, 170)[:len(b)] }
	whole := make([][]byte, 0, 40)
	for range 40 {
		whole = append(whole, []byte{170})
	}
	keys := append(whole[:0], keep(all[0].sig), keep(all[1].sig), keep([]byte("a")))
	l := script(api.Hash, api.Dup, push(keep([]byte("b"))...), api.Swap, api.Equal, api.Not, api.Must, api.Drop, push(keep(publics(all...))...), many(2))
	before := func() []byte {
		var all []byte
		for _, o := range l {
			all = append(all, o.Data[:cap(o.Data)]...)
		}
		for _, k := range whole {
			all = append(all, k[:cap(k)]...)
		}
		return all
	}
	was := before()
	for range 3 {
		runs(t, "the same again", l, keys, 0, api.OK)
		if !bytes.Equal(before(), was) {
			t.Fatal("what was handed in is written into")
		}
	}
	if got := Run(l[:3], keys[:1], text(), 0); plain.Told(got) != api.ErrLock || !bytes.Equal(before(), was) {
		t.Errorf("a part of it: got %v", got)
	}
}

// TestP4BehindTheLength: what lies behind a list's length is not read.
func TestP4BehindTheLength(t *testing.T) {
	data := []byte{0, 0, 1}
	runs(t, "Data", []api.Op{push(data[:2]...)}, nil, 0, api.ErrLock)
	runs(t, "a key", nil, hand(data[:2]), 0, api.ErrLock)
	runs(t, "keys", nil, hand(yes, yes)[:1], 0, api.OK)
	runs(t, "ops", script(api.Not, api.Not)[:1], hand(no), 0, api.OK)
	long := make([]byte, 4000)
	long[0] = 1
	runs(t, "3000 of more", nil, hand(long[:3000]), 0, api.OK)
	runs(t, "300 of more", []api.Op{{Op: api.Push, Data: long[:300]}}, nil, 0, api.OK)
	runs(t, "60 of more", times(70, api.Op{Op: api.Not})[:60], hand(yes), 0, api.OK)
}

// drawn: a lock, keys and a height out of numbers that draw tells (each below what it is asked for).
func drawn(all []signer, draw func(below int) int) (l []api.Op, keys [][]byte, height int) {
	things := hand(nil, yes, []byte{0}, []byte{0, 2}, []byte("text"), digest([]byte("text")), all[0].public, all[1].public, publics(all[:2]...), publics(all...), publics(all...)[:40])
	for range draw(8) {
		k := things[draw(len(things))]
		if draw(3) == 0 {
			k = all[draw(len(all))].sig
		}
		keys = append(keys, k)
	}
	open := 0
	for range draw(30) {
		o := api.Op{Op: draw(14) + 1}
		switch o.Op {
		case api.Push:
			o.Data = things[draw(len(things))]
		case api.Many:
			o.N = draw(3) + 1
		case api.After:
			o.N = draw(4)
		case api.If:
			open++
		case api.Else, api.End:
			// An End too many is wrong most of the time, so few of them are let through.
			if open == 0 && draw(20) > 0 {
				o.Op = api.Push
				o.Data = yes
			} else if o.Op == api.End {
				open--
			}
		}
		l = append(l, o)
	}
	if draw(20) > 0 {
		for ; open > 0; open-- {
			l = append(l, api.Op{Op: api.End})
		}
	}
	return l, keys, draw(5)
}

// TestLK2DrawnLocks: very many locks, against the other program.
func TestLK2DrawnLocks(t *testing.T) {
	all := signers(3)
	from := rand.New(rand.NewSource(6))
	told := map[api.Errno]int{}
	count := 15000
	if testing.Short() {
		count = 3000
	}
	for range count {
		l, keys, height := drawn(all, from.Intn)
		got, want := plain.Told(Run(l, keys, text(), height)), otherRun(l, keys, text(), height)
		if got != want {
			t.Fatalf("%v, %x, %d: got %v, want %v", l, keys, height, got, want)
		}
		told[got]++
	}
	for _, e := range []api.Errno{api.OK, api.ErrSyntax, api.ErrLock, api.ErrEarly} {
		if told[e] < count/200 {
			t.Errorf("%v is told only %d times: the draw is no good", e, told[e])
		}
	}
}

func FuzzRun(f *testing.F) {
	all := signers(3)
	f.Add([]byte(nil))
	f.Add([]byte{2, 1, 0, 3, 1, 0, 13})
	f.Add(bytes.Repeat([]byte{7, 11, 3, 250}, 20))
	f.Fuzz(func(t *testing.T, from []byte) {
		l, keys, height := drawn(all, func(below int) int {
			if len(from) == 0 {
				return 0
			}
			n := int(from[0]) % below
			from = from[1:]
			return n
		})
		got, want := plain.Told(Run(l, keys, text(), height)), otherRun(l, keys, text(), height)
		if got != want {
			t.Errorf("%v, %x, %d: got %v, want %v", l, keys, height, got, want)
		}
		if got, want := plain.Told(Check(l)), otherCheck(l); got != want {
			t.Errorf("Check of %v: got %v, want %v", l, got, want)
		}
	})
}
