package venue_test

import (
	"math/rand"
	"slices"
	"testing"

	"broadside/api"
	"broadside/expose"
	"broadside/venue"
	"broadside/words"
)

// walk is a venue and its model that go one way, by chance, and what they answered on it.
type walk struct {
	r    *rand.Rand
	v    *venue.Venue
	m    *model
	put  int64 // what was put in, less what was taken out
	dear bool  // whether margins are such that much is refused for them
	seen map[api.Cmd]map[api.Errno]int
	told map[string]int
}

// one answers one of these.
func one[T any](r *rand.Rand, l ...T) T { return l[r.Intn(len(l))] }

// chanceSpec is a contract's data, with little numbers.
func (w *walk) chanceSpec() api.Spec {
	r := w.r
	s := api.Spec{Number: uint32(1 + r.Intn(24)), Route: uint8(1 + r.Intn(2)), Tick: one[int64](r, 1, 2, 5), Lot: one[int64](r, 1, 1, 2, 3), Band: int64(10 + r.Intn(60)),
		Limit: int64(20 + r.Intn(80)), Credit: r.Int63n(6), LastDay: w.m.Day + uint32(r.Intn(10))}
	s.First = s.Tick * int64(10+r.Intn(15))
	s.Shifts[r.Intn(8)], s.Shifts[8+r.Intn(8)] = 1+r.Int63n(3), -1-r.Int63n(3)
	if w.dear {
		s.Shifts[2], s.Shifts[14] = 10, -15
	}
	if r.Intn(20) == 0 {
		s.LastDay -= uint32(r.Intn(3))
	}
	return s
}

// account is mostly one of a few.
func (w *walk) account() uint32 {
	if w.r.Intn(40) == 0 {
		return one(w.r, 0, 9, last)
	}
	return uint32(1 + w.r.Intn(5))
}

// contract is mostly one that is not expired.
func (w *walk) contract() api.Contract {
	l := slices.Clone(w.m.Contracts)
	if w.r.Intn(15) > 0 {
		l = slices.DeleteFunc(l, func(c api.Contract) bool { return c.State == api.Expired })
	}
	if len(l) == 0 || w.r.Intn(60) == 0 {
		return api.Contract{Spec: api.Spec{Number: uint32(w.r.Intn(30)), Tick: 1, Lot: 1, Band: 5}, Price: 50}
	}
	return one(w.r, l...)
}

// number is mostly that of something that stands, and then mostly its account is told with it.
func (w *walk) number() (uint64, uint32) {
	l := slices.Concat(w.m.Orders, w.m.Bids)
	if len(l) == 0 || w.r.Intn(25) == 0 {
		return uint64(w.r.Intn(30)), w.account()
	}
	o := one(w.r, l...).Order
	if w.r.Intn(10) == 0 {
		return o.Number, w.account()
	}
	return o.Number, o.Account
}

// price and qty are mostly such as a contract takes.
func (w *walk) price(c api.Contract) int64 {
	p := c.Price + one(w.r, w.r.Int63n(2*c.Spec.Band+1)-c.Spec.Band, c.Spec.Tick*(w.r.Int63n(3)-1), c.Spec.Tick*(w.r.Int63n(3)-1))
	if w.r.Intn(20) == 0 {
		return c.Price + w.r.Int63n(6*c.Spec.Band+1) - 3*c.Spec.Band
	}
	return p - p%c.Spec.Tick
}

func (w *walk) qty(c api.Contract) int64 {
	if w.r.Intn(20) == 0 {
		return one(w.r, 0, -1, 1, 60*c.Spec.Lot, mostQty+1, w.r.Int63n(9))
	}
	return c.Spec.Lot * (1 + w.r.Int63n(9))
}

// chance is a command.
func (w *walk) chance() api.Command {
	r, c, account := w.r, w.contract(), w.account()
	contract := c.Spec.Number
	switch n := r.Intn(100); {
	case n < 5:
		return deposit(one(r, account, account, w.failed(account), 0), one(r, r.Int63n(200), r.Int63n(100), r.Int63n(100), r.Int63n(100), mostFunds-1000, mostFunds+1))
	case n < 10:
		return withdraw(one(r, account, account, w.failed(account)), one(r, r.Int63n(1000), r.Int63n(300), r.Int63n(100), r.Int63n(20)-3))
	case n < 12:
		return list(w.chanceSpec())
	case n < 13:
		return halt(contract, r.Intn(5) == 0)
	case n < 58:
		o := as(buy(account, contract, w.price(c), w.qty(c)), one(r, 1, 1, 1, 1, 2, 3, 4, api.Kind(r.Intn(6))))
		o.Buy = r.Intn(2) == 0
		return o
	case n < 61:
		number, account := w.number()
		return cancel(account, number)
	case n < 69:
		return w.chanceReplace()
	case n < 70:
		return mass(account, one(r, 0, contract))
	case n < 82:
		return bid(account, contract, r.Intn(2) == 0, w.price(c), w.qty(c))
	case n < 84:
		return kill(account, r.Intn(4) == 0)
	case n < 89:
		jump := c.Price/2 + 1
		p := c.Price + one(r, r.Int63n(11)-5, r.Int63n(2*jump)-jump, r.Int63n(2*jump)-jump)
		if r.Intn(10) > 0 {
			p = max(p-p%c.Spec.Tick, c.Spec.Tick)
		}
		return publish(contract, p)
	case n < 92:
		return settlement()
	case n < 98:
		return liquidate(w.failed(account))
	}
	return expire(one(r, contract, w.due(contract), w.due(contract)))
}

// due is mostly the contract that expires ahead of all others.
func (w *walk) due(contract uint32) uint32 {
	first := uint64(1) << 62
	for _, c := range w.m.Contracts {
		if at := uint64(c.Spec.LastDay)<<32 + uint64(c.Spec.Number); c.State != api.Expired && at < first && w.r.Intn(10) > 0 {
			first, contract = at, c.Spec.Number
		}
	}
	return contract
}

// failed is mostly an account in default, if there is one.
func (w *walk) failed(account uint32) uint32 {
	for _, a := range w.m.Accounts {
		if a.Default && w.r.Intn(3) > 0 {
			return a.Number
		}
	}
	return account
}

// chanceReplace keeps the price now and then.
func (w *walk) chanceReplace() api.Command {
	number, account := w.number()
	c := w.contract()
	price := w.price(c)
	for _, x := range w.m.Orders {
		if x.Order.Number != number {
			continue
		}
		for _, y := range w.m.Contracts {
			if y.Spec.Number == x.Contract {
				c, price = y, one(w.r, x.Order.Price, w.price(y))
			}
		}
	}
	return replace(account, number, price, w.qty(c))
}

// begin lets there be some accounts and contracts.
func (w *walk) begin(t *testing.T) {
	t.Helper()
	for n := range uint32(5) {
		w.do(t, deposit(n+1, 1+w.r.Int63n(300)))
	}
	for range 3 {
		w.do(t, list(w.chanceSpec()))
	}
}

// step does one thing to both.
func (w *walk) step(t *testing.T) {
	t.Helper()
	c := w.chance()
	if w.r.Intn(300) == 0 {
		c.On, c.Number = true, 5
	}
	w.do(t, c)
}

// do does a command to both.
func (w *walk) do(t *testing.T, c api.Command) {
	t.Helper()
	before := w.m.State
	want := w.m.apply(c)
	form, e := words.Command(c)
	var got api.Reply
	if e == api.OK && w.r.Intn(2) == 0 {
		got, e = words.ReadReply(w.v.Do(form))
		if e != api.OK {
			t.Errorf("%+v: Do answers no reply", c)
		}
	} else {
		got = w.v.Apply(c)
	}
	s := w.v.State()
	if !words.SameReply(got, want) || !same(s, w.m.State) {
		t.Fatalf("%+v behind %+v: %+v, %+v; want %+v, %+v", c, before, got, s, want, w.m.State)
	}
	if w.seen[c.Kind] == nil {
		w.seen[c.Kind] = map[api.Errno]int{}
	}
	w.seen[c.Kind][got.Errno]++
	w.tell(c.Kind, got, before, w.m.State)
	w.holdCash(t, s, c, got)
	holdEven(t, s)
}

// tell counts what came of a command that is not told by its error.
func (w *walk) tell(kind api.Cmd, r api.Reply, before, behind api.State) {
	count := func(name string, so bool) {
		if so {
			w.told[name]++
		}
	}
	switch kind {
	case api.CmdNew, api.CmdReplace:
		count("own orders went", len(r.Gone) > 0)
		count("traded", r.Filled > 0)
		count("traded and rests", r.Filled > 0 && r.Left > 0)
		count("replaced and traded", kind == api.CmdReplace && r.Filled > 0)
	case api.CmdSettle, api.CmdExpire:
		count("several in default", len(r.Accounts) > 1)
		count("in default by the expiry", kind == api.CmdExpire && len(r.Accounts) > 0)
		count("in default, and orders went", kind == api.CmdSettle && len(r.Accounts) > 0 && len(r.Gone) > 0)
		count("in default, and the contract's orders went", kind == api.CmdExpire && len(r.Accounts) > 0 && len(r.Gone) > 0)
		count("the fund was emptied", before.Fund > 0 && behind.Fund == 0)
		count("the fund paid", before.Fund > behind.Fund && behind.Fund > 0)
		for i, a := range behind.Accounts {
			was := before.Accounts[i].Default
			count("the mark went", was && !a.Default)
			count("the mark stayed", was && a.Default && !slices.Contains(r.Accounts, a.Number))
			count("in default again", was && slices.Contains(r.Accounts, a.Number))
		}
	case api.CmdLiquidate:
		count("sold and torn up", r.Filled > 0 && r.Left > 0)
		count("only sold", r.Filled > 0 && r.Left == 0)
		count("torn up in parts", r.Left > 0 && len(r.Trades) > 2)
		count("bids went", len(behind.Bids) < len(before.Bids))
		count("a bid was filled in part", r.Filled > 0 && len(behind.Bids) == len(before.Bids))
	}
}

// holdCash, P16.5, P16.6: cash and fund are what was put in; nobody's is below 0; who was let in can bear what there is then.
func (w *walk) holdCash(t *testing.T, s api.State, c api.Command, r api.Reply) {
	t.Helper()
	if r.Errno == api.OK && c.Kind == api.CmdDeposit {
		w.put += c.Amount
	}
	if r.Errno == api.OK && c.Kind == api.CmdWithdraw {
		w.put -= c.Amount
	}
	sum := s.Fund
	for _, a := range s.Accounts {
		sum += a.Cash
		asked := c.Kind == api.CmdNew || c.Kind == api.CmdReplace || c.Kind == api.CmdBid || c.Kind == api.CmdWithdraw
		n, e := w.v.Need(a.Number)
		if e != api.OK || a.Cash < 0 || a.Default && a.Killed && n.W > 0 || asked && r.Errno == api.OK && a.Number == c.Account && a.Cash < expose.Total(n) {
			t.Errorf("behind %+v there are %+v and the need %+v, error %d", c, a, n, e)
		}
		want, _ := expose.Need(w.m.stakes(a.Number))
		if n != want {
			t.Errorf("behind %+v %d needs %+v, want %+v", c, a.Number, n, want)
		}
	}
	if sum != w.put || s.Fund < 0 {
		t.Errorf("behind %+v there is %d in all, %d in the fund; want %d", c, sum, s.Fund, w.put)
	}
}

// holdEven, P16.5: of each contract quantities and bases add up to 0; an expired one holds nothing.
func holdEven(t *testing.T, s api.State) {
	t.Helper()
	for _, c := range s.Contracts {
		var q, basis int64
		there := 0
		for _, p := range s.Positions {
			if p.Contract == c.Spec.Number {
				q, basis, there = q+p.Q, basis+p.Basis, there+1
			}
		}
		for _, x := range slices.Concat(s.Orders, s.Bids) {
			if x.Contract == c.Spec.Number {
				there++
			}
		}
		if q != 0 || basis != 0 || c.State == api.Expired && there > 0 {
			t.Errorf("the contract %+v adds up to %d, %d, and has %d things", c, q, basis, there)
		}
	}
}

// turn goes on, now and then, with a copy, or one made of the state, while the one left behind is changed.
func (w *walk) turn(t *testing.T) {
	t.Helper()
	n := w.r.Intn(25)
	if n > 1 {
		return
	}
	v, m, put := w.v.Copy(), w.m.copy(), w.put
	if n == 1 {
		made, e := venue.From(w.v.State())
		if e != api.OK {
			t.Fatalf("From refuses what State tells: error %d, %+v", e, w.v.State())
		}
		v = made
	}
	for range 5 {
		w.step(t)
	}
	w.v, w.m, w.put = v, m, put
	if s := v.State(); !same(s, m.State) {
		t.Fatalf("left behind: %+v, want %+v", s, m.State)
	}
}

// P16.1 to P16.7: whatever is asked in whatever order, venues answer and become what the words say, as do copies of them and such as are made of what they tell.
func TestAsTheModel(t *testing.T) {
	r := rand.New(rand.NewSource(161))
	seen, told := map[api.Cmd]map[api.Errno]int{}, map[string]int{}
	for i := range 90 {
		w := &walk{r: r, v: venue.New(), m: &model{api.State{Next: 1}}, dear: i%3 == 0, seen: seen, told: told}
		w.begin(t)
		for range 300 {
			w.step(t)
			w.turn(t)
			if t.Failed() {
				t.FailNow()
			}
		}
	}
	holdSeen(t, seen)
	for _, name := range []string{"own orders went", "traded and rests", "replaced and traded", "several in default", "in default by the expiry", "in default, and orders went",
		"in default, and the contract's orders went", "the fund was emptied", "the fund paid", "the mark went", "the mark stayed", "in default again",
		"sold and torn up", "only sold", "torn up in parts", "bids went", "a bid was filled in part"} {
		if told[name] == 0 {
			t.Errorf("it never came about that %s: %v", name, told)
		}
	}
}

// holdSeen: each kind answered each of its errors, so that chance left none out.
func holdSeen(t *testing.T, seen map[api.Cmd]map[api.Errno]int) {
	t.Helper()
	gate := []api.Errno{api.OK, api.ErrArg, api.ErrNone, api.ErrDefault, api.ErrKilled, api.ErrExpired, api.ErrHalted, api.ErrQty, api.ErrPrice, api.ErrBand, api.ErrLimit, api.ErrMargin}
	for kind, l := range map[api.Cmd][]api.Errno{
		api.CmdDeposit:   {api.OK, api.ErrArg, api.ErrOverflow, api.ErrBad},
		api.CmdWithdraw:  {api.OK, api.ErrArg, api.ErrNone, api.ErrCash, api.ErrDefault, api.ErrMargin},
		api.CmdList:      {api.OK, api.ErrTwice, api.ErrDay},
		api.CmdHalt:      {api.OK, api.ErrNone, api.ErrExpired},
		api.CmdNew:       append(gate, api.ErrAll, api.ErrCross),
		api.CmdCancel:    {api.OK, api.ErrArg, api.ErrNone},
		api.CmdReplace:   {api.OK, api.ErrArg, api.ErrNone, api.ErrHalted, api.ErrQty, api.ErrPrice, api.ErrBand, api.ErrLimit, api.ErrMargin},
		api.CmdMass:      {api.OK, api.ErrArg, api.ErrNone},
		api.CmdBid:       gate,
		api.CmdKill:      {api.OK, api.ErrArg, api.ErrNone},
		api.CmdPublish:   {api.OK, api.ErrNone, api.ErrExpired, api.ErrPrice},
		api.CmdSettle:    {api.OK},
		api.CmdLiquidate: {api.OK, api.ErrArg, api.ErrNone, api.ErrSolvent},
		api.CmdExpire:    {api.OK, api.ErrNone, api.ErrExpired, api.ErrDay},
	} {
		for _, e := range l {
			if seen[kind][e] == 0 {
				t.Errorf("the kind %d never answered %d: %v", kind, e, seen[kind])
			}
		}
	}
}

// renamed gives the accounts of a walk other numbers, in the same order.
func renamed(n uint32) uint32 {
	if n == 0 || n == last {
		return n
	}
	return 1000*n + 7
}

// T8: what becomes of accounts hangs on the order of their numbers alone.
func TestRenamed(t *testing.T) {
	r := rand.New(rand.NewSource(164))
	for range 10 {
		w := &walk{r: r, v: venue.New(), m: &model{api.State{Next: 1}}, seen: map[api.Cmd]map[api.Errno]int{}, told: map[string]int{}}
		other := venue.New()
		for range 300 {
			c := w.chance()
			want := w.m.apply(c)
			c.Account = renamed(c.Account)
			for i := range want.Trades {
				want.Trades[i].Account = renamed(want.Trades[i].Account)
			}
			for i := range want.Accounts {
				want.Accounts[i] = renamed(want.Accounts[i])
			}
			if got := other.Apply(c); !words.SameReply(got, want) {
				t.Fatalf("%+v: %+v, want %+v", c, got, want)
			}
		}
		s := w.m.State
		for i := range s.Accounts {
			s.Accounts[i].Number = renamed(s.Accounts[i].Number)
		}
		for i := range s.Positions {
			s.Positions[i].Account = renamed(s.Positions[i].Account)
		}
		for i := range s.Orders {
			s.Orders[i].Order.Account = renamed(s.Orders[i].Order.Account)
		}
		for i := range s.Bids {
			s.Bids[i].Order.Account = renamed(s.Bids[i].Order.Account)
		}
		if !same(other.State(), s) {
			t.Fatalf("%+v, want %+v", other.State(), s)
		}
	}
}
