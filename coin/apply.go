package coin

import (
	"bytes"
	"slices"

	"moneyer/api"
	"moneyer/size"
	"moneyer/tx"
)

// Apply tells a set behind a payment, what was spent, and what is left over.
func Apply(cs []api.Coin, t api.Tx, height int) ([]api.Coin, []api.Coin, int, error) {
	if err := Check(cs); err != nil {
		return nil, nil, 0, err
	}
	own, err := ownCoins(t, height)
	if err != nil {
		return nil, nil, 0, err
	}
	if !size.Within(height, api.MaxHeight) {
		return nil, nil, 0, api.ErrRange
	}
	spent, err := spentBy(t, cs)
	if err != nil {
		return nil, nil, 0, err
	}
	left, err := leftOver(spent, own)
	if err != nil {
		return nil, nil, 0, err
	}
	for _, c := range own {
		if _, isThere := at(cs, c.Place); isThere {
			return nil, nil, 0, api.ErrTwice
		}
	}
	set := exchange(cs, spent, own)
	if len(set) > api.MaxSet {
		return nil, nil, 0, api.ErrFull
	}
	return CloneAll(set), CloneAll(spent), left, nil
}

// Undo tells a set ahead of a payment.
func Undo(cs []api.Coin, t api.Tx, spent []api.Coin) ([]api.Coin, error) {
	if err := Check(cs); err != nil {
		return nil, err
	}
	own, err := ownCoins(t, 0)
	if err != nil {
		return nil, err
	}
	for _, c := range own {
		there, isThere := at(cs, c.Place)
		if !isThere || !sameOut(there.Out, c.Out) {
			return nil, api.ErrNone
		}
	}
	if err := checkSpent(spent, t.Ins, cs); err != nil {
		return nil, err
	}
	set := exchange(cs, own, spent)
	// Ahead of the copying, as what is handed in as spent was not checked, and may be of any size.
	if err := Check(set); err != nil {
		return nil, err
	}
	return CloneAll(set), nil
}

// ownCoins tells the coins that a payment's outs are at a height, or what is wrong with the payment.
func ownCoins(t api.Tx, height int) ([]api.Coin, error) {
	// ID tells what Check of the payment does, and nothing else.
	id, err := tx.ID(t)
	if err != nil {
		return nil, err
	}
	var own []api.Coin
	for i, o := range t.Outs {
		own = append(own, api.Coin{Place: api.Place{Tx: id, At: i}, Out: o, Height: height})
	}
	return own, nil
}

// spentBy tells the coins of a set that a payment spends, in the order of its ins.
func spentBy(t api.Tx, cs []api.Coin) ([]api.Coin, error) {
	var spent []api.Coin
	for _, in := range t.Ins {
		c, isThere := at(cs, in.From)
		if !isThere {
			return nil, api.ErrNone
		}
		spent = append(spent, c)
	}
	return spent, nil
}

// leftOver tells how much more is spent than the outs are.
func leftOver(spent, outs []api.Coin) (int, error) {
	had, err := total(spent)
	if err != nil {
		return 0, err
	}
	paid, err := total(outs)
	if err != nil {
		return 0, err
	}
	switch {
	case len(spent) == 0: // what spends nothing makes money
		return 0, nil
	case paid > had:
		return 0, api.ErrMoney
	}
	return had - paid, nil
}

// checkSpent tells what is wrong with coins that are to come back for ins.
func checkSpent(spent []api.Coin, ins []api.In, cs []api.Coin) error {
	if len(spent) != len(ins) {
		return api.ErrLength
	}
	for i, c := range spent {
		if c.Place != ins[i].From {
			return api.ErrFork
		}
		if _, isThere := at(cs, c.Place); isThere {
			return api.ErrTwice
		}
	}
	return nil
}

// exchange tells a set, in its order, without some of its coins and with others; what stands behind them is still that of the coins.
func exchange(cs, goes, comes []api.Coin) []api.Coin {
	gone := make(map[api.Place]struct{}, len(goes))
	for _, c := range goes {
		gone[c.Place] = struct{}{}
	}
	set := make([]api.Coin, 0, len(cs)+len(comes))
	for _, c := range cs {
		if _, isGone := gone[c.Place]; !isGone {
			set = append(set, c)
		}
	}
	set = append(set, comes...)
	slices.SortFunc(set, func(a, b api.Coin) int { return Compare(a.Place, b.Place) })
	return set
}

// sameOut tells if two outs are as much, and locked alike.
func sameOut(a, b api.Out) bool {
	return a.Amount == b.Amount && slices.EqualFunc(a.Lock, b.Lock, func(a, b api.Op) bool {
		return a.Op == b.Op && a.N == b.N && bytes.Equal(a.Data, b.Data)
	})
}
