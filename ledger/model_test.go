package ledger_test

import (
	"math/rand"
	"slices"
	"testing"

	"broadside/api"
	"broadside/ledger"
)

// model is a ledger as the chapter's words have it: accounts in a row, and of each account's contract all trades since it was last marked, one by one.
type model struct {
	accounts  []api.Account // the fund first
	contracts [4]map[uint32][]lot
}

// lot is a quantity, and the price at which it was bought, or sold, or marked.
type lot struct{ price, n int64 }

func fresh() *model {
	m := &model{accounts: []api.Account{{}}}
	for i := range m.contracts {
		m.contracts[i] = map[uint32][]lot{}
	}
	return m
}

func (m *model) copy() *model {
	other := fresh()
	other.accounts = slices.Clone(m.accounts)
	for i, by := range m.contracts {
		for n, l := range by {
			other.contracts[i][n] = slices.Clone(l)
		}
	}
	return other
}

func (m *model) find(number uint32) *api.Account {
	for i := range m.accounts {
		if m.accounts[i].Number == number {
			return &m.accounts[i]
		}
	}
	return nil
}

func (m *model) funds() int64 {
	var sum int64
	for _, a := range m.accounts {
		sum += a.Cash
	}
	return sum
}

func (m *model) deposit(number uint32, n int64) api.Errno {
	a := m.find(number)
	if n < 1 || n > mostFunds {
		return api.ErrArg
	}
	if a == nil && len(m.accounts) == 65 {
		return api.ErrFull
	}
	if m.funds()+n > mostFunds {
		return api.ErrOverflow
	}
	if a == nil {
		m.accounts = append(m.accounts, cash(number, 0))
		a = m.find(number)
	}
	a.Cash += n
	return api.OK
}

func (m *model) withdraw(number uint32, n int64) api.Errno {
	a := m.find(number)
	if number == 0 || n < 1 || n > mostFunds {
		return api.ErrArg
	}
	if a == nil {
		return api.ErrNone
	}
	if a.Cash < n {
		return api.ErrCash
	}
	a.Cash -= n
	return api.OK
}

func (m *model) set(x api.Account) api.Errno {
	if x.Cash < 0 || x.Cash > mostFunds || x.Number == 0 && (x.Killed || x.Default) {
		return api.ErrArg
	}
	a := m.find(x.Number)
	if a == nil {
		return api.ErrNone
	}
	*a = x
	return api.OK
}

// position adds up what was traded.
func (m *model) position(contract, account uint32) api.Position {
	p := pos(contract, account, 0, 0)
	for _, x := range m.contracts[contract][account] {
		p.Q += x.n
		p.Basis += x.price * x.n
	}
	return p
}

func (m *model) trade(contract, buyer, seller uint32, price, n int64) api.Errno {
	if contract == 0 || buyer == 0 || seller == 0 || buyer == seller || price < 1 || price > mostPrice || n < 1 || n > mostQ {
		return api.ErrArg
	}
	if m.find(buyer) == nil || m.find(seller) == nil {
		return api.ErrNone
	}
	by := m.contracts[contract]
	before, behind := by[buyer], by[seller]
	by[buyer] = append(by[buyer], lot{price, n})
	by[seller] = append(by[seller], lot{price, -n})
	for _, account := range []uint32{buyer, seller} {
		p := m.position(contract, account)
		if max(p.Q, -p.Q) > mostQ || max(p.Basis, -p.Basis) > mostBasis {
			by[buyer], by[seller] = before, behind
			return api.ErrOverflow
		}
	}
	return api.OK
}

// holders are all positions of a contract in which there is something.
func (m *model) holders(contract uint32) []api.Position {
	var l []api.Position
	for _, a := range m.sorted() {
		if p := m.position(contract, a.Number); p.Q != 0 || p.Basis != 0 {
			l = append(l, p)
		}
	}
	return l
}

func (m *model) sorted() []api.Account {
	l := slices.Clone(m.accounts[1:])
	slices.SortFunc(l, func(a, b api.Account) int { return int(a.Number) - int(b.Number) })
	return l
}

func (m *model) positions() []api.Position {
	var l []api.Position
	for c := range m.contracts {
		l = append(l, m.holders(uint32(c))...)
	}
	return l
}

func (m *model) mark(contract uint32, price int64, closed bool) ([]api.Variation, api.Errno) {
	if contract == 0 || price < 1 || price > mostPrice {
		return nil, api.ErrArg
	}
	var l []api.Variation
	for _, p := range m.holders(contract) {
		l = append(l, won(p.Account, p.Q*price-p.Basis))
		m.contracts[contract][p.Account] = []lot{{price, p.Q}}
	}
	if closed {
		clear(m.contracts[contract])
	}
	return l, api.OK
}

// of answers one of these.
func of[T any](r *rand.Rand, l ...T) T { return l[r.Intn(len(l))] }

// amount is what is put in or taken out: mostly little, now and then such that it is too much.
func amount(r *rand.Rand) int64 {
	return of(r, int64(r.Intn(100)), int64(r.Intn(100)), int64(r.Intn(5)-3), mostFunds-int64(r.Intn(1000)), mostFunds/20, mostFunds+1)
}

// step does one thing to both, and answers what both told.
func step(r *rand.Rand, l *ledger.Ledger, m *model, most int) (name string, got, want []api.Variation, e, wantE api.Errno) {
	number, contract := uint32(r.Intn(most)), uint32(r.Intn(4))
	price := of(r, int64(r.Intn(12)), int64(r.Intn(12)), mostPrice-int64(r.Intn(5)), mostPrice+1)
	switch r.Intn(12) {
	case 0, 1, 2:
		n := amount(r)
		return "Deposit", nil, nil, l.Deposit(number, n), m.deposit(number, n)
	case 3:
		n := amount(r)
		return "Withdraw", nil, nil, l.Withdraw(number, n), m.withdraw(number, n)
	case 4:
		a := flagged(number, of(r, 0, -1, int64(r.Intn(200)), mostFunds-int64(r.Intn(50))), r.Intn(3) == 0, r.Intn(3) == 0)
		return "Set", nil, nil, l.Set(a), m.set(a)
	case 5:
		closed := r.Intn(4) == 0
		got, e = l.Mark(contract, price, closed)
		want, wantE = m.mark(contract, price, closed)
		return "Mark", got, want, e, wantE
	}
	other, n := uint32(r.Intn(most)), of(r, int64(r.Intn(12)), int64(r.Intn(12)), mostQ/2, mostQ-int64(r.Intn(5)))
	return "Trade", nil, nil, l.Trade(contract, number, other, price, n), m.trade(contract, number, other, price, n)
}

// holdEven: of each contract the quantities add up to 0, and so do the bases.
func holdEven(t *testing.T, l *ledger.Ledger) {
	t.Helper()
	for c := range uint32(4) {
		var q, basis int64
		for p := range l.Holders(c) {
			q += p.Q
			basis += p.Basis
		}
		if q != 0 || basis != 0 {
			t.Errorf("the contract %d adds up to %d, %d", c, q, basis)
		}
	}
}

// holdNought: variations add up to 0.
func holdNought(t *testing.T, told []api.Variation) {
	t.Helper()
	var sum int64
	for _, x := range told {
		sum += x.V
	}
	if sum != 0 {
		t.Errorf("the variations %v add up to %d", told, sum)
	}
}

// P9.1 to P9.7: whatever is asked in whatever order, ledgers answer what the words say, as do copies of them and such as are made from what they tell.
func TestAsTheModel(t *testing.T) {
	r := rand.New(rand.NewSource(91))
	seen := map[string]map[api.Errno]int{}
	for i := range 90 {
		most := []int{4, 12, 200}[i%3]
		l, m := ledger.New(), fresh()
		for n := range min(uint32(most)/2, 62) {
			hold(t, "Deposit", l.Deposit(3*n+1, 1), m.deposit(3*n+1, 1))
		}
		for range 300 {
			name, got, want, e, wantE := step(r, l, m, most)
			if e != wantE || !slices.Equal(got, want) {
				t.Fatalf("%s: %v, error %d; want %v, error %d", name, got, e, want, wantE)
			}
			if seen[name] == nil {
				seen[name] = map[api.Errno]int{}
			}
			seen[name][e]++
			holdNought(t, got)
			if r.Intn(4) == 0 {
				holdEven(t, l)
				holdAll(t, name, l, m.accounts[0].Cash, m.sorted(), m.positions()...)
				l, m = turn(t, r, l, m, most)
			}
			if t.Failed() {
				t.FailNow()
			}
		}
	}
	holdSeen(t, seen)
}

// turn goes on, now and then, with a copy, or one made anew, while the one left behind is changed.
func turn(t *testing.T, r *rand.Rand, l *ledger.Ledger, m *model, most int) (*ledger.Ledger, *model) {
	t.Helper()
	old, other := l, m.copy()
	switch r.Intn(6) {
	case 0:
		l = old.Copy()
	case 1:
		made, e := ledger.From(m.accounts[0].Cash, m.sorted(), m.positions())
		if m.funds() > mostFunds {
			hold(t, "From", e, api.ErrArg)
			return l, m
		}
		hold(t, "From", e, api.OK)
		l = made
	default:
		return l, m
	}
	for range 5 {
		step(r, old, other, most)
	}
	holdAll(t, "the one left behind", old, other.accounts[0].Cash, other.sorted(), other.positions()...)
	holdAll(t, "the other one", l, m.accounts[0].Cash, m.sorted(), m.positions()...)
	return l, m
}

// holdSeen: each call answered each of its errors, so that chance left none out.
func holdSeen(t *testing.T, seen map[string]map[api.Errno]int) {
	t.Helper()
	for name, l := range map[string][]api.Errno{
		"Deposit": {api.OK, api.ErrArg, api.ErrFull, api.ErrOverflow}, "Withdraw": {api.OK, api.ErrArg, api.ErrNone, api.ErrCash},
		"Set": {api.OK, api.ErrArg, api.ErrNone}, "Trade": {api.OK, api.ErrArg, api.ErrNone, api.ErrOverflow}, "Mark": {api.OK, api.ErrArg},
	} {
		for _, e := range l {
			if seen[name][e] == 0 {
				t.Errorf("%s never answered %d", name, e)
			}
		}
	}
}

// P9.6: as long as nobody is set, funds are what was put in less what was taken out, whatever is traded and marked.
func TestFundsAddUp(t *testing.T) {
	r := rand.New(rand.NewSource(92))
	for range 40 {
		l := ledger.New()
		var sum int64
		for range 200 {
			number, n := uint32(r.Intn(70)), amount(r)
			switch r.Intn(4) {
			case 0:
				if l.Deposit(number, n) == api.OK {
					sum += n
				}
			case 1:
				if l.Withdraw(number, n) == api.OK {
					sum -= n
				}
			case 2:
				l.Trade(1, number, uint32(r.Intn(70)), int64(r.Intn(50)), int64(r.Intn(50)))
			default:
				l.Mark(1, int64(r.Intn(50)), r.Intn(5) == 0)
			}
			if l.Funds() != sum {
				t.Fatalf("Funds %d, want %d", l.Funds(), sum)
			}
		}
	}
}
