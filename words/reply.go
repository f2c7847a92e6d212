package words

import (
	"slices"

	"broadside/api"
	"broadside/wire"
)

// mostErrno is the greatest error of a reply.
const mostErrno = 999

// MayReply tells whether the reply may be.
func MayReply(r api.Reply) bool {
	if r.Errno != api.OK {
		return 0 < r.Errno && r.Errno <= mostErrno && SameReply(r, api.Reply{Errno: r.Errno})
	}
	return max(len(r.Trades), len(r.Gone), len(r.Accounts)) <= api.MaxTold
}

// Reply answers the form of a reply that may be.
func Reply(r api.Reply) ([]byte, api.Errno) {
	if !MayReply(r) {
		return nil, api.ErrArg
	}
	b := wire.Nat(nil, uint64(r.Errno))
	if r.Errno != api.OK {
		return b, api.OK
	}
	b = wire.Nat(b, r.Number)
	b = wire.Int(b, r.Filled)
	b = wire.Int(b, r.Left)
	b = putList(b, r.Trades, putTrade)
	b = putList(b, r.Gone, wire.Nat)
	return putList(b, r.Accounts, putSmall), api.OK
}

// ReadReply answers the reply whose form b is.
func ReadReply(b []byte) (api.Reply, api.Errno) {
	r := wire.NewReader(b)
	reply := api.Reply{Errno: api.Errno(r.Small(mostErrno))}
	if reply.Errno == api.OK {
		reply.Number = r.Nat()
		reply.Filled = r.Int()
		reply.Left = r.Int()
		reply.Trades = takeList(r, func() api.Trade { return takeTrade(r) })
		reply.Gone = takeList(r, r.Nat)
		reply.Accounts = takeList(r, func() uint32 { return take32[uint32](r) })
	}
	if r.Done() != api.OK {
		return api.Reply{}, api.ErrForm
	}
	return reply, api.OK
}

// SameReply tells whether all fields are alike.
func SameReply(a, b api.Reply) bool {
	return a.Errno == b.Errno && a.Number == b.Number && a.Filled == b.Filled && a.Left == b.Left &&
		slices.Equal(a.Trades, b.Trades) && slices.Equal(a.Gone, b.Gone) && slices.Equal(a.Accounts, b.Accounts)
}

// putList answers b, and behind it how many there are, and each as put writes it.
func putList[T any](b []byte, l []T, put func([]byte, T) []byte) []byte {
	b = wire.Nat(b, uint64(len(l)))
	for _, x := range l {
		// Not behind b itself: put would copy all of it for each.
		b = append(b, put(nil, x)...)
	}
	return b
}

// takeList reads how many there are, and each as take reads it.
func takeList[T any](r *wire.Reader, take func() T) []T {
	var l []T
	for range r.Small(api.MaxTold) {
		l = append(l, take())
	}
	return l
}

func putTrade(b []byte, t api.Trade) []byte {
	b = wire.Int(b, t.Price)
	b = wire.Int(b, t.Qty)
	b = wire.Nat(b, t.Number)
	return putSmall(b, t.Account)
}

func takeTrade(r *wire.Reader) api.Trade {
	return api.Trade{Price: r.Int(), Qty: r.Int(), Number: r.Nat(), Account: take32[uint32](r)}
}
