package lock

import (
	"bytes"

	"moneyer/api"
	"moneyer/key"
	"moneyer/sha"
)

const keySize = len(api.Digest{}) // bytes of a public key

// What a run breaks off with, wherever it is: why the lock is not opened.
type (
	shut  struct{} // something is not at hand, or not true
	full  struct{} // more is at hand than may be
	early struct{} // its time has not come
)

// run is a lock that is being opened.
type run struct {
	hand   [][]byte // what is at hand, the top one last
	m      api.Digest
	height int
}

// open does a lock that was checked, with keys that were checked, and tells why it is not opened.
func open(l []api.Op, keys [][]byte, m api.Digest, height int) (err error) {
	defer func() {
		switch recover().(type) {
		case nil:
		case full:
			err = api.ErrFull
		case early:
			err = api.ErrEarly
		default:
			// Whatever else breaks a run off, it must not leave the lock open.
			err = api.ErrLock
		}
	}()
	r := &run{m: m, height: height}
	for _, k := range keys {
		r.put(k)
	}
	r.doAll(l)
	r.end()
	return nil
}

// doAll does op by op, and leaves out what is in a way that is not gone.
func (r *run) doAll(l []api.Op) {
	for at := 0; at < len(l); at++ {
		switch l[at].Op {
		case api.If:
			if !isTrue(r.take()) {
				at = wayEnd(l, at)
			}
		case api.Else:
			// Who comes to an Else op by op has done what is ahead of it.
			at = wayEnd(l, at)
		case api.End:
		default:
			r.do(l[at])
		}
	}
}

// do does one op that does not say which ones are done.
func (r *run) do(o api.Op) {
	switch o.Op {
	case api.Push:
		r.put(o.Data)
	case api.Dup:
		top := r.take()
		r.put(top)
		r.put(top)
	case api.Drop:
		r.take()
	case api.Swap:
		top, below := r.take(), r.take()
		r.put(top)
		r.put(below)
	case api.Equal:
		r.tell(bytes.Equal(r.take(), r.take()))
	case api.Must:
		r.must(isTrue(r.take()))
	case api.Hash:
		d := sha.Sum(r.take())
		r.put(d[:])
	case api.Signed:
		k, sig := r.take(), r.take()
		r.tell(r.isSigned(sig, func(by []byte) bool { return bytes.Equal(by, k) }))
	case api.Many:
		keys := r.take()
		r.tell(r.areSigned(r.takeSome(o.N), keys))
	case api.After:
		if o.N > r.height {
			panic(early{})
		}
	case api.Not:
		r.tell(!isTrue(r.take()))
	}
}

// end breaks the run off, if what is left does not open the lock.
func (r *run) end() {
	r.must(len(r.hand) == 1)
	r.must(isTrue(r.take()))
}

// must breaks the run off, if something does not hold.
func (r *run) must(holds bool) {
	if !holds {
		panic(shut{})
	}
}

// put lays a thing on top of what is at hand.
func (r *run) put(thing []byte) {
	if len(r.hand) == api.MaxStack {
		panic(full{})
	}
	r.hand = append(r.hand, thing)
}

// tell lays on top what is true, or not.
func (r *run) tell(holds bool) {
	if holds {
		r.put([]byte{1})
	} else {
		r.put(nil)
	}
}

// take takes the top one.
func (r *run) take() []byte {
	return r.takeSome(1)[0]
}

// takeSome takes the n top ones; the top one is the last one of them.
func (r *run) takeSome(n int) [][]byte {
	left := len(r.hand) - n
	r.must(left >= 0)
	some := r.hand[left:]
	r.hand = r.hand[:left]
	return some
}

// isSigned tells if a signature of m is by a key that is taken.
func (r *run) isSigned(sig []byte, isTaken func(by []byte) bool) bool {
	by, err := key.Recover(r.m, sig)
	return err == nil && isTaken(by[:])
}

// areSigned tells if each signature of m is by one of the keys, in their order.
func (r *run) areSigned(sigs [][]byte, keys []byte) bool {
	if len(keys) == 0 || len(keys)%keySize != 0 {
		return false
	}
	isNext := inOrder(keys)
	for _, sig := range sigs {
		if !r.isSigned(sig, isNext) {
			return false
		}
	}
	return true
}

// inOrder makes a function that tells if a key is one of those that it has not gone past yet: so none counts twice, and none ahead of one that counted.
func inOrder(keys []byte) func(by []byte) bool {
	return func(by []byte) bool {
		for len(keys) > 0 {
			next := keys[:keySize]
			keys = keys[keySize:]
			if bytes.Equal(next, by) {
				return true
			}
		}
		return false
	}
}

// isTrue tells if a thing has a byte that is not 0.
func isTrue(thing []byte) bool {
	for _, b := range thing {
		if b != 0 {
			return true
		}
	}
	return false
}

// wayEnd tells where the way ends that begins behind an If or an Else: at the Else of that If, or at its End.
func wayEnd(l []api.Op, at int) int {
	within := 0
	for at++; at < len(l); at++ {
		switch l[at].Op {
		case api.If:
			within++
		case api.Else:
			if within == 0 {
				return at
			}
		case api.End:
			if within == 0 {
				return at
			}
			within--
		}
	}
	return at
}
