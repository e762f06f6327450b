package lock

import (
	"crypto/sha256"
	"encoding/binary"
	"strings"

	"moneyer/api"
	"moneyer/key"
)

// This file has what Check and Run are to tell, in other words: pairs by taking them out of a text, ways as a tree, errors as results.

// otherPairs: a text of the letters of If, Else and End; whole pairs are taken out till none is left.
func otherPairs(l []api.Op) bool {
	letters := map[int]string{api.If: "i", api.Else: "e", api.End: "."}
	var all strings.Builder
	for _, o := range l {
		all.WriteString(letters[o.Op])
	}
	left := all.String()
	for {
		less := strings.ReplaceAll(strings.ReplaceAll(left, "ie.", ""), "i.", "")
		if less == left {
			return left == ""
		}
		left = less
	}
}

func otherCheckOp(o api.Op) api.Errno {
	if o.Op < 1 || o.Op > 14 {
		return api.ErrSyntax
	}
	if o.Op != 9 && o.Op != 10 && o.N != 0 {
		return api.ErrSyntax
	}
	if o.Op != 1 && len(o.Data) != 0 {
		return api.ErrSyntax
	}
	if len(o.Data) >= 301 {
		return api.ErrFull
	}
	if o.Op == 9 && !(1 <= o.N && o.N <= 9) {
		return api.ErrRange
	}
	if o.Op == 10 && !(0 <= o.N && o.N <= 1<<30) {
		return api.ErrRange
	}
	return api.OK
}

func otherCheck(l []api.Op) api.Errno {
	if len(l) >= 61 {
		return api.ErrFull
	}
	for _, o := range l {
		if e := otherCheckOp(o); e != api.OK {
			return e
		}
	}
	if !otherPairs(l) {
		return api.ErrSyntax
	}
	return api.OK
}

// node is an op, or an If with both of its ways.
type node struct {
	op       api.Op
	yes, not []node
}

// grow makes nodes of the ops till an Else or End that is none of theirs, and tells what is left from there on.
func grow(l []api.Op) ([]node, []api.Op) {
	var nodes []node
	for len(l) > 0 && l[0].Op != api.Else && l[0].Op != api.End {
		n := node{op: l[0]}
		l = l[1:]
		if n.op.Op == api.If {
			n.yes, l = grow(l)
			if l[0].Op == api.Else {
				n.not, l = grow(l[1:])
			}
			l = l[1:]
		}
		nodes = append(nodes, n)
	}
	return nodes, l
}

// other is a run in which things are texts, the top one first.
type other struct {
	hand   []string
	m      api.Digest
	height int
}

func (o *other) walk(nodes []node) api.Errno {
	for _, n := range nodes {
		if e := o.step(n); e != api.OK {
			return e
		}
		if len(o.hand) > 30 {
			return api.ErrFull
		}
	}
	return api.OK
}

// takes: how many things an op takes.
func takes(o api.Op) int {
	switch o.Op {
	case api.Push, api.After:
		return 0
	case api.Swap, api.Equal, api.Signed:
		return 2
	case api.Many:
		return o.N + 1
	}
	return 1
}

func (o *other) step(n node) api.Errno {
	count := takes(n.op)
	if len(o.hand) < count {
		return api.ErrLock
	}
	taken := append([]string(nil), o.hand[:count]...)
	o.hand = append([]string(nil), o.hand[count:]...)
	switch n.op.Op {
	case api.Must:
		if !otherTrue(taken[0]) {
			return api.ErrLock
		}
	case api.After:
		if o.height < n.op.N {
			return api.ErrEarly
		}
	case api.If:
		if otherTrue(taken[0]) {
			return o.walk(n.yes)
		}
		return o.walk(n.not)
	default:
		o.hand = append(o.told(n.op, taken), o.hand...)
	}
	return api.OK
}

// told: what an op lays at hand, the top one first.
func (o *other) told(op api.Op, taken []string) []string {
	answer := map[bool]string{true: "\x01", false: ""}
	switch op.Op {
	case api.Push:
		return []string{string(op.Data)}
	case api.Dup:
		return []string{taken[0], taken[0]}
	case api.Swap:
		return []string{taken[1], taken[0]}
	case api.Equal:
		return []string{answer[taken[0] == taken[1]]}
	case api.Hash:
		d := sha256.Sum256([]byte(taken[0]))
		return []string{string(d[:])}
	case api.Signed:
		return []string{answer[len(taken[0]) == 32 && otherMany(o.m, taken[0], taken[1:])]}
	case api.Many:
		return []string{answer[otherMany(o.m, taken[0], taken[1:])]}
	case api.Not:
		return []string{answer[!otherTrue(taken[0])]}
	}
	return nil // Drop
}

// otherMany tries all ways to give each signature (the last one first) a key of its own, from the last key on.
func otherMany(m api.Digest, keys string, sigs []string) bool {
	if len(keys) == 0 || len(keys)%32 != 0 {
		return false
	}
	var fits func(keys string, sigs []string) bool
	fits = func(keys string, sigs []string) bool {
		if len(sigs) == 0 {
			return true
		}
		if len(keys) == 0 {
			return false
		}
		ahead, last := keys[:len(keys)-32], keys[len(keys)-32:]
		by, err := key.Recover(m, []byte(sigs[0]))
		if err == nil && string(by[:]) == last && fits(ahead, sigs[1:]) {
			return true
		}
		return fits(ahead, sigs)
	}
	return fits(keys, sigs)
}

func otherTrue(thing string) bool {
	return strings.Trim(thing, "\x00") != ""
}

func otherRun(l []api.Op, keys [][]byte, m api.Digest, height int) api.Errno {
	if e := otherCheck(l); e != api.OK {
		return e
	}
	o := &other{m: m, height: height}
	for _, k := range keys {
		if len(keys) > 30 || len(k) > 3000 {
			return api.ErrFull
		}
		o.hand = append([]string{string(k)}, o.hand...)
	}
	nodes, _ := grow(l)
	if e := o.walk(nodes); e != api.OK {
		return e
	}
	if len(o.hand) != 1 || !otherTrue(o.hand[0]) {
		return api.ErrLock
	}
	return api.OK
}

// signer has one of the seeds of the tests, its key, and its signature of the tests' digest.
type signer struct {
	seed   api.Digest
	public []byte
	sig    []byte
}

// text is the digest that the tests' signers sign.
func text() api.Digest { return sha256.Sum256([]byte("text")) }

func signers(n int) []signer {
	var all []signer
	for i := range n {
		seed := sha256.Sum256(binary.BigEndian.AppendUint64(nil, uint64(i)))
		public := key.Public(seed)
		all = append(all, signer{seed, public[:], key.Sign(seed, text())})
	}
	return all
}

// publics: the keys of some, one behind the other, as Many takes them.
func publics(all ...signer) []byte {
	var keys []byte
	for _, s := range all {
		keys = append(keys, s.public...)
	}
	return keys
}

// sigs: the signatures of some, the last one on top.
func sigs(all ...signer) [][]byte {
	var keys [][]byte
	for _, s := range all {
		keys = append(keys, s.sig)
	}
	return keys
}
