package venue_test

import (
	"cmp"
	"slices"

	"broadside/api"
	"broadside/expose"
	"broadside/sealed"
	"broadside/settle"
	"broadside/spec"
	"broadside/tearup"
	"broadside/words"
)

// model is the abstract machine as the chapter's words have it, on nothing but a state: what stands is looked for in its lists each time.
type model struct{ api.State }

func (m *model) copy() *model {
	s := m.State
	s.Accounts, s.Contracts, s.Positions = slices.Clone(s.Accounts), slices.Clone(s.Contracts), slices.Clone(s.Positions)
	s.Orders, s.Bids = slices.Clone(s.Orders), slices.Clone(s.Bids)
	return &model{s}
}

// must goes on just where it is so; else the command is answered that error.
func must(so bool, e api.Errno) {
	if !so {
		panic(e)
	}
}

// apply does a command on a copy, which counts if nothing has refused it.
func (m *model) apply(c api.Command) (r api.Reply) {
	tried := m.copy()
	defer func() {
		x := recover()
		if x == nil {
			*m = *tried
			return
		}
		e, refused := x.(api.Errno)
		if !refused {
			panic(x)
		}
		r = api.Reply{Errno: e}
	}()
	must(words.MayCommand(c), api.ErrBad)
	return tried.run(c)
}

func (m *model) run(c api.Command) (r api.Reply) {
	switch c.Kind {
	case api.CmdDeposit:
		m.deposit(c.Account, c.Amount)
	case api.CmdWithdraw:
		m.withdraw(c.Account, c.Amount)
	case api.CmdList:
		m.list(c.Spec)
	case api.CmdHalt:
		x := m.living(c.Contract)
		x.State = map[bool]api.ContractState{true: api.Halted, false: api.Open}[c.On]
	case api.CmdPublish:
		x := m.living(c.Contract)
		must(spec.IsPrice(x.Spec, c.Price), api.ErrPrice)
		x.Price = c.Price
	case api.CmdNew:
		o := m.admit(c)
		return m.traded(c.Contract, o, m.place(c.Contract, o, c.As))
	case api.CmdBid:
		o := m.admit(c)
		must(m.count(m.Bids, func(x api.Stood) bool { return x.Contract == c.Contract }) < 50, api.ErrFull)
		m.seatBid(api.Stood{Contract: c.Contract, Order: o})
		m.bears(c.Account)
		return api.Reply{Number: o.Number, Left: o.Left}
	case api.CmdCancel:
		return m.cancel(c.Account, c.Number)
	case api.CmdReplace:
		return m.replace(c)
	case api.CmdMass:
		m.account(c.Account)
		if c.Contract != 0 {
			m.contract(c.Contract)
		}
		r.Gone = m.goes(func(x api.Stood) bool {
			return x.Order.Account == c.Account && (c.Contract == 0 || x.Contract == c.Contract)
		})
	case api.CmdKill:
		m.account(c.Account).Killed = c.On
		if c.On {
			r.Gone = m.goesOf(c.Account)
		}
	case api.CmdSettle:
		return m.settle()
	case api.CmdLiquidate:
		return m.liquidate(c.Account)
	case api.CmdExpire:
		return m.expire(c.Contract)
	}
	return r
}

// account is one that is there.
func (m *model) account(number uint32) *api.Account {
	must(number != 0, api.ErrArg)
	place := slices.IndexFunc(m.Accounts, func(a api.Account) bool { return a.Number == number })
	must(place >= 0, api.ErrNone)
	return &m.Accounts[place]
}

// contract is one that is there.
func (m *model) contract(number uint32) *api.Contract {
	place := slices.IndexFunc(m.Contracts, func(c api.Contract) bool { return c.Spec.Number == number })
	must(place >= 0, api.ErrNone)
	return &m.Contracts[place]
}

func (m *model) living(number uint32) *api.Contract {
	x := m.contract(number)
	must(x.State != api.Expired, api.ErrExpired)
	return x
}

func (m *model) count(l []api.Stood, asked func(api.Stood) bool) int {
	return len(l) - len(slices.DeleteFunc(slices.Clone(l), asked))
}

func (m *model) funds() int64 {
	sum := m.Fund
	for _, a := range m.Accounts {
		sum += a.Cash
	}
	return sum
}

func (m *model) deposit(number uint32, n int64) {
	must(n >= 1 && n <= mostFunds, api.ErrArg)
	there := slices.ContainsFunc(m.Accounts, func(a api.Account) bool { return a.Number == number })
	must(number == 0 || there || len(m.Accounts) < 64, api.ErrFull)
	must(m.funds()+n <= mostFunds, api.ErrOverflow)
	if number == 0 {
		m.Fund += n
		return
	}
	if !there {
		m.Accounts = append(m.Accounts, cash(number, 0))
		slices.SortFunc(m.Accounts, func(a, b api.Account) int { return cmp.Compare(a.Number, b.Number) })
	}
	m.account(number).Cash += n
}

func (m *model) withdraw(number uint32, n int64) {
	must(number != 0 && n >= 1 && n <= mostFunds, api.ErrArg)
	a := m.account(number)
	must(a.Cash >= n, api.ErrCash)
	a.Cash -= n
	must(!a.Default, api.ErrDefault)
	m.bears(number)
}

func (m *model) list(s api.Spec) {
	must(!slices.ContainsFunc(m.Contracts, func(c api.Contract) bool { return c.Spec.Number == s.Number }), api.ErrTwice)
	must(s.LastDay >= m.Day, api.ErrDay)
	must(len(m.Contracts) < 16, api.ErrFull)
	m.Contracts = append(m.Contracts, api.Contract{Spec: s, State: api.Open, Price: s.First})
	slices.SortFunc(m.Contracts, func(a, b api.Contract) int { return cmp.Compare(a.Spec.Number, b.Spec.Number) })
}

// position is what an account holds; nothing, if it stands nowhere.
func (m *model) position(contract, account uint32) api.Position {
	for _, p := range m.Positions {
		if p.Contract == contract && p.Account == account {
			return p
		}
	}
	return pos(contract, account, 0, 0)
}

// hold puts a position where it stands, or takes it away, if it holds nothing.
func (m *model) hold(p api.Position) {
	m.Positions = slices.DeleteFunc(m.Positions, func(x api.Position) bool { return x.Contract == p.Contract && x.Account == p.Account })
	if p.Q == 0 && p.Basis == 0 {
		return
	}
	m.Positions = append(m.Positions, p)
	slices.SortFunc(m.Positions, func(a, b api.Position) int {
		return cmp.Or(cmp.Compare(a.Contract, b.Contract), cmp.Compare(a.Account, b.Account))
	})
}

func (m *model) trade(contract, buyer, seller uint32, price, qty int64) {
	for account, n := range map[uint32]int64{buyer: qty, seller: -qty} {
		p := m.position(contract, account)
		p.Q, p.Basis = p.Q+n, p.Basis+n*price
		must(max(p.Q, -p.Q) <= 10_000_000 && max(p.Basis, -p.Basis) <= mostFunds, api.ErrOverflow)
		m.hold(p)
	}
}

// stakes are those of an account.
func (m *model) stakes(account uint32) []api.Stake {
	var l []api.Stake
	for _, c := range m.Contracts {
		p := m.position(c.Spec.Number, account)
		x := api.Stake{Leg: api.Leg{Spec: c.Spec, Q: p.Q}, Basis: p.Basis, Price: c.Price}
		for _, o := range slices.Concat(m.Orders, m.Bids) {
			if o.Contract == c.Spec.Number && o.Order.Account == account {
				x.Orders = append(x.Orders, o.Order)
			}
		}
		if c.State != api.Expired {
			l = append(l, x)
		}
	}
	return l
}

func (m *model) bears(account uint32) {
	n, e := expose.Need(m.stakes(account))
	must(e == api.OK, e)
	must(m.account(account).Cash >= n.M+n.W+n.U, api.ErrMargin)
}

// gate is layer 12's, with what is open but of the number not.
func (m *model) gate(contract uint32, o api.Order, not uint64) {
	a, c := m.account(o.Account), m.contract(contract)
	open := map[bool]int64{}
	for _, x := range slices.Concat(m.Orders, m.Bids) {
		if x.Contract == contract && x.Order.Account == o.Account && x.Order.Number != not {
			open[x.Order.Buy] += x.Order.Left
		}
	}
	must(!a.Default, api.ErrDefault)
	must(!a.Killed, api.ErrKilled)
	must(c.State != api.Expired, api.ErrExpired)
	must(c.State != api.Halted, api.ErrHalted)
	must(o.Left >= 1 && o.Left <= mostQty && o.Left%c.Spec.Lot == 0, api.ErrQty)
	must(o.Price >= 1 && o.Price <= mostPrice && o.Price%c.Spec.Tick == 0, api.ErrPrice)
	must(max(o.Price-c.Price, c.Price-o.Price) <= c.Spec.Band, api.ErrBand)
	q := m.position(contract, o.Account).Q
	worst := map[bool]int64{true: q + open[true] + o.Left, false: -q + open[false] + o.Left}[o.Buy]
	must(worst <= c.Spec.Limit, api.ErrLimit)
}

func (m *model) admit(c api.Command) api.Order {
	m.account(c.Account)
	m.contract(c.Contract)
	o := api.Order{Number: m.Next, Account: c.Account, Buy: c.Buy, Price: c.Price, Left: c.Qty}
	m.gate(c.Contract, o, 0)
	must(m.Next <= mostNumber, api.ErrOverflow)
	m.Next++
	return o
}

// ahead tells whether x stands ahead of y, whoever came first.
func ahead(x, y api.Stood) bool {
	a, b := x.Order, y.Order
	if x.Contract != y.Contract {
		return x.Contract < y.Contract
	}
	if a.Buy != b.Buy {
		return a.Buy
	}
	return a.Buy && a.Price > b.Price || !a.Buy && a.Price < b.Price
}

// seat puts an order behind all that do not stand behind it.
func (m *model) seat(x api.Stood) {
	place := slices.IndexFunc(m.Orders, func(y api.Stood) bool { return ahead(x, y) })
	if place < 0 {
		place = len(m.Orders)
	}
	m.Orders = slices.Insert(m.Orders, place, x)
}

func (m *model) seatBid(x api.Stood) {
	place := slices.IndexFunc(m.Bids, func(y api.Stood) bool { return x.Contract < y.Contract })
	if place < 0 {
		place = len(m.Bids)
	}
	m.Bids = slices.Insert(m.Bids, place, x)
}

// met is where the first order of the other side is that an incoming one meets; -1, if it meets none.
func (m *model) met(contract uint32, o api.Order) int {
	return slices.IndexFunc(m.Orders, func(x api.Stood) bool {
		reached := x.Order.Price <= o.Price
		if !o.Buy {
			reached = x.Order.Price >= o.Price
		}
		return x.Contract == contract && x.Order.Buy != o.Buy && reached
	})
}

// place tries the order, and refuses it by what came of that.
func (m *model) place(contract uint32, o api.Order, k api.Kind) api.Placed {
	must(k >= api.KindLimit && k <= api.KindPost, api.ErrArg)
	var p api.Placed
	for place := m.met(contract, o); place >= 0 && o.Left > 0; place = m.met(contract, o) {
		x := &m.Orders[place].Order
		if x.Account == o.Account {
			p.Gone = append(p.Gone, x.Number)
			m.Orders = slices.Delete(m.Orders, place, place+1)
			continue
		}
		n := min(x.Left, o.Left)
		p.Trades = append(p.Trades, trade(x.Price, n, x.Number, x.Account))
		p.Filled, o.Left, x.Left = p.Filled+n, o.Left-n, x.Left-n
		if x.Left == 0 {
			m.Orders = slices.Delete(m.Orders, place, place+1)
		}
	}
	must(k != api.KindAll || o.Left == 0, api.ErrAll)
	must(k != api.KindPost || len(p.Trades) == 0, api.ErrCross)
	if o.Left == 0 || k == api.KindNow {
		return p
	}
	beside := func(x api.Stood) bool { return x.Contract == contract && x.Order.Buy == o.Buy }
	must(m.count(m.Orders, beside) < 100, api.ErrFull)
	p.Left = o.Left
	m.seat(api.Stood{Contract: contract, Order: o})
	return p
}

// traded does the trades of an order that came.
func (m *model) traded(contract uint32, o api.Order, p api.Placed) api.Reply {
	for _, x := range p.Trades {
		if o.Buy {
			m.trade(contract, o.Account, x.Account, x.Price, x.Qty)
		} else {
			m.trade(contract, x.Account, o.Account, x.Price, x.Qty)
		}
	}
	m.bears(o.Account)
	return api.Reply{Number: o.Number, Filled: p.Filled, Left: p.Left, Trades: p.Trades, Gone: p.Gone}
}

func (m *model) replace(c api.Command) api.Reply {
	must(c.Account != 0, api.ErrArg)
	place := slices.IndexFunc(m.Orders, func(x api.Stood) bool { return x.Order.Account == c.Account && x.Order.Number == c.Number })
	must(place >= 0, api.ErrNone)
	x := m.Orders[place]
	had := x.Order
	x.Order.Price, x.Order.Left = c.Price, c.Qty
	m.gate(x.Contract, x.Order, c.Number)
	if had.Price == c.Price && c.Qty <= had.Left {
		m.Orders[place] = x
		return m.traded(x.Contract, x.Order, api.Placed{Left: c.Qty})
	}
	m.Orders = slices.Delete(m.Orders, place, place+1)
	return m.traded(x.Contract, x.Order, m.place(x.Contract, x.Order, api.KindLimit))
}

func (m *model) cancel(account uint32, number uint64) api.Reply {
	must(account != 0, api.ErrArg)
	is := func(x api.Stood) bool { return x.Order.Account == account && x.Order.Number == number }
	for _, x := range slices.Concat(m.Orders, m.Bids) {
		if is(x) {
			m.goes(is)
			return api.Reply{Number: number, Left: x.Order.Left}
		}
	}
	panic(api.ErrNone)
}

// goes lets all that stands go of which it is so, and tells the numbers by contracts, bids behind.
func (m *model) goes(is func(api.Stood) bool) []uint64 {
	var l []uint64
	for _, c := range m.Contracts {
		for _, x := range slices.Concat(m.Orders, m.Bids) {
			if x.Contract == c.Spec.Number && is(x) {
				l = append(l, x.Order.Number)
			}
		}
	}
	m.Orders, m.Bids = slices.DeleteFunc(m.Orders, is), slices.DeleteFunc(m.Bids, is)
	return l
}

func (m *model) goesOf(account uint32) []uint64 {
	return m.goes(func(x api.Stood) bool { return x.Order.Account == account })
}

// mark tells what each account has won by what it holds of a contract.
func (m *model) mark(contract uint32, closed bool, won map[uint32]int64) {
	price := m.contract(contract).Price
	for _, p := range slices.Clone(m.Positions) {
		if p.Contract != contract {
			continue
		}
		won[p.Account] += p.Q*price - p.Basis
		p.Basis = p.Q * price
		if closed {
			p.Q, p.Basis = 0, 0
		}
		m.hold(p)
	}
}

func (m *model) pay(won map[uint32]int64) (r api.Reply) {
	var dues []api.Due
	for _, a := range m.Accounts {
		dues = append(dues, api.Due{Account: a.Number, Cash: a.Cash, V: won[a.Number]})
	}
	l, fund, e := settle.Settle(m.Fund, dues)
	must(e == api.OK, e)
	m.Fund = fund
	for _, x := range l {
		a := m.account(x.Account)
		a.Cash = x.Cash
		if x.Default {
			a.Default = true
			r.Accounts = append(r.Accounts, x.Account)
			r.Gone = append(r.Gone, m.goesOf(x.Account)...)
		}
	}
	return r
}

func (m *model) settle() api.Reply {
	must(m.Day != last, api.ErrOverflow)
	m.Day++
	won := map[uint32]int64{}
	for _, c := range m.Contracts {
		m.mark(c.Spec.Number, false, won)
	}
	r := m.pay(won)
	for i, a := range m.Accounts {
		holds := slices.ContainsFunc(m.Positions, func(p api.Position) bool { return p.Account == a.Number })
		if !holds && !slices.Contains(r.Accounts, a.Number) {
			m.Accounts[i].Default = false
		}
	}
	return r
}

func (m *model) expire(contract uint32) api.Reply {
	x := m.living(contract)
	must(m.Day >= x.Spec.LastDay, api.ErrDay)
	for _, c := range m.Contracts {
		earlier := c.Spec.LastDay < x.Spec.LastDay || c.Spec.LastDay == x.Spec.LastDay && c.Spec.Number < contract
		must(c.State == api.Expired || !earlier, api.ErrDay)
	}
	x.State = api.Expired
	won := map[uint32]int64{}
	m.mark(contract, true, won)
	r := m.pay(won)
	r.Gone = append(r.Gone, m.goes(func(x api.Stood) bool { return x.Contract == contract })...)
	return r
}

func (m *model) liquidate(account uint32) (r api.Reply) {
	must(m.account(account).Default, api.ErrSolvent)
	for _, c := range m.Contracts {
		contract := c.Spec.Number
		q := m.position(contract, account).Q
		if q == 0 {
			continue
		}
		filled := m.auction(c, account, q, &r)
		rest := max(q, -q) - filled
		r.Filled += filled
		r.Left += rest
		if rest == 0 {
			continue
		}
		var others []api.Holder
		for _, a := range m.Accounts {
			if a.Number != account {
				others = append(others, api.Holder{Account: a.Number, Q: m.position(contract, a.Number).Q})
			}
		}
		parts, e := tearup.Parts(m.position(contract, account).Q, others)
		must(e == api.OK, e)
		for _, h := range parts {
			m.close(c, account, q, trade(c.Price, h.Q, 0, h.Account), &r)
		}
	}
	return r
}

// auction trades with the bids, and tells how much.
func (m *model) auction(c api.Contract, account uint32, q int64, r *api.Reply) (filled int64) {
	var bids []api.Order
	for _, x := range m.Bids {
		if x.Contract == c.Spec.Number && x.Order.Buy == (q > 0) {
			bids = append(bids, x.Order)
		}
	}
	price, fills, e := sealed.Clear(q > 0, max(q, -q), bids)
	must(e == api.OK, e)
	for _, f := range fills {
		for i := range m.Bids {
			if m.Bids[i].Order.Number == f.Number {
				m.Bids[i].Order.Left -= f.Qty
			}
		}
		filled += f.Qty
		m.close(c, account, q, trade(price, f.Qty, f.Number, f.Account), r)
	}
	m.Bids = slices.DeleteFunc(m.Bids, func(x api.Stood) bool { return x.Order.Left == 0 })
	return filled
}

// close trades a part of a position away.
func (m *model) close(c api.Contract, account uint32, q int64, x api.Trade, r *api.Reply) {
	r.Trades = append(r.Trades, x)
	if q > 0 {
		m.trade(c.Spec.Number, x.Account, account, x.Price, x.Qty)
	} else {
		m.trade(c.Spec.Number, account, x.Account, x.Price, x.Qty)
	}
}
