package ledger

import (
	"iter"

	"broadside/api"
)

// Accounts tells all accounts but the fund, by rising numbers, as they are when they are told.
func (l *Ledger) Accounts() iter.Seq[api.Account] {
	number := func(a api.Account) uint32 { return a.Number }
	return rising(l.allAccounts, number)
}

// Holders tells the positions of those who hold a contract, by rising accounts, as they are when they are told.
func (l *Ledger) Holders(contract uint32) iter.Seq[api.Position] {
	return func(yield func(api.Position) bool) {
		// By accounts, as nobody else holds anything: they are few, whatever the positions are.
		for a := range l.Accounts() {
			p, there := l.positions[place{contract, a.Number}]
			if there && !yield(p) {
				return
			}
		}
	}
}

// Held tells the positions of an account, by rising contracts, as they are when they are told.
func (l *Ledger) Held(account uint32) iter.Seq[api.Position] {
	number := func(p api.Position) uint32 {
		if p.Account != account {
			return 0
		}
		return p.Contract
	}
	return rising(l.allPositions, number)
}

// allAccounts answers the accounts where they stand.
func (l *Ledger) allAccounts() map[uint32]api.Account {
	if l.missing() {
		return nil
	}
	return l.accounts
}

// allPositions answers the positions where they stand.
func (l *Ledger) allPositions() map[place]api.Position {
	if l.missing() {
		return nil
	}
	return l.positions
}

// rising tells what stands in a map, by rising numbers, as it is when it is told; what has the number 0 is left out.
func rising[K comparable, V any](all func() map[K]V, number func(V) uint32) iter.Seq[V] {
	return func(yield func(V) bool) {
		// Each looked for when it is its turn: in between anything may come, change and go.
		x, there := next(all(), 0, number)
		for there && yield(x) {
			x, there = next(all(), number(x), number)
		}
	}
}

// next answers what has the least number above told, and whether there is such a thing.
func next[K comparable, V any](all map[K]V, told uint32, number func(V) uint32) (V, bool) {
	var first V
	least := uint32(0)
	for _, x := range all {
		n := number(x)
		if n > told && (least == 0 || n < least) {
			first, least = x, n
		}
	}
	return first, least != 0
}
