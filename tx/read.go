package tx

import (
	"moneyer/api"
	"moneyer/size"
)

// noPayment is what a reading breaks off with, wherever it is.
type noPayment struct{}

// reader takes parts of a payment, one behind the other, from a place on.
type reader struct {
	b  []byte
	at int
}

// readWhole tells the payment whose bytes these are, or that there is none.
func readWhole(b []byte) (t api.Tx, err error) {
	defer func() {
		switch recover().(type) {
		case nil:
		case noPayment:
			err = api.ErrSyntax
		default:
			// Whatever else breaks a reading off, no payment was read.
			err = api.ErrSyntax
		}
	}()
	r := &reader{b: b}
	whole := r.payment()
	must(r.at == len(b))
	// What Check refuses has no bytes, so these are not its bytes.
	must(Check(whole) == nil)
	return whole, nil
}

// must breaks the reading off, if something does not hold.
func must(holds bool) {
	if !holds {
		panic(noPayment{})
	}
}

func (r *reader) payment() api.Tx {
	var t api.Tx
	for range r.count(api.MaxParts) {
		t.Ins = append(t.Ins, r.in())
	}
	for range r.count(api.MaxParts) {
		t.Outs = append(t.Outs, r.out())
	}
	t.Time = r.number()
	return t
}

func (r *reader) in() api.In {
	var in api.In
	in.From.Tx = r.digest()
	in.From.At = r.number()
	for range r.count(api.MaxStack) {
		in.Keys = append(in.Keys, r.packed())
	}
	return in
}

func (r *reader) out() api.Out {
	var o api.Out
	o.Amount = r.number()
	for range r.count(api.MaxScript) {
		o.Lock = append(o.Lock, r.op())
	}
	return o
}

func (r *reader) op() api.Op {
	var o api.Op
	o.Op = r.number()
	o.N = r.number()
	o.Data = r.packed()
	return o
}

// count takes how many of something there are.
func (r *reader) count(most int) int {
	n := r.number()
	// Held against what may be at once, so that no long list is made of bytes that are no payment.
	must(n <= most)
	return n
}

func (r *reader) number() int {
	n, next, err := size.Read(r.b, r.at)
	must(err == nil)
	r.at = next
	return n
}

func (r *reader) packed() []byte {
	thing, next, err := size.Unpack(r.b, r.at)
	must(err == nil)
	r.at = next
	return thing
}

func (r *reader) digest() api.Digest {
	var d api.Digest
	must(len(r.b)-r.at >= len(d))
	r.at += copy(d[:], r.b[r.at:])
	return d
}
