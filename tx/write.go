package tx

import (
	"moneyer/api"
	"moneyer/size"
)

// writer lays parts of a payment one behind the other.
type writer struct {
	b []byte
}

// written tells the bytes of a payment that was checked.
func written(t api.Tx) []byte {
	w := &writer{}
	w.number(len(t.Ins))
	for _, in := range t.Ins {
		w.in(in)
	}
	w.number(len(t.Outs))
	for _, o := range t.Outs {
		w.out(o)
	}
	w.number(t.Time)
	return w.b
}

func (w *writer) in(in api.In) {
	w.b = append(w.b, in.From.Tx[:]...)
	w.number(in.From.At)
	w.number(len(in.Keys))
	for _, k := range in.Keys {
		w.packed(k)
	}
}

func (w *writer) out(o api.Out) {
	w.number(o.Amount)
	w.number(len(o.Lock))
	for _, op := range o.Lock {
		w.number(op.Op)
		w.number(op.N)
		w.packed(op.Data)
	}
}

func (w *writer) number(n int) {
	// No number of a payment that was checked is below 0, which is all that Write refuses.
	b, _ := size.Write(n)
	w.b = append(w.b, b...)
}

func (w *writer) packed(thing []byte) {
	w.b = append(w.b, size.Pack(thing)...)
}
