package words_test

import (
	"bytes"
	"math"
	"reflect"
	"slices"
	"testing"

	"broadside/api"
	"broadside/words"
)

// full is a reply in which nothing is zero but the error.
func full() api.Reply {
	return api.Reply{
		Number: 300, Filled: 2, Left: -3,
		Trades:   []api.Trade{{Price: 4, Qty: 5, Number: 6, Account: 7}, {Price: -1, Qty: 0, Number: math.MaxUint64, Account: last}},
		Gone:     []uint64{8, 300},
		Accounts: []uint32{9, 0, 300},
	}
}

func fullForm() []byte {
	return []byte{
		0, 0xac, 2, 4, 5,
		2, 8, 10, 6, 7, 1, 0, 0xff, 0xff, 0xff, 0xff, 0xff, 0xff, 0xff, 0xff, 0xff, 1, 0xff, 0xff, 0xff, 0xff, 0x0f,
		2, 8, 0xac, 2,
		3, 9, 0, 0xac, 2,
	}
}

// replies are such that may be, and their forms.
func replies() []struct {
	name string
	r    api.Reply
	form []byte
} {
	end := []byte{0xff, 0xff, 0xff, 0xff, 0xff, 0xff, 0xff, 0xff, 0xff, 1}
	top := bytes.Replace(end, []byte{0xff}, []byte{0xfe}, 1)
	return []struct {
		name string
		r    api.Reply
		form []byte
	}{
		{"OK", api.Reply{}, []byte{0, 0, 0, 0, 0, 0, 0}},
		{"the error 7", api.Reply{Errno: api.ErrNone}, []byte{7}},
		{"the error 1", api.Reply{Errno: api.ErrNil}, []byte{1}},
		{"the error 160", api.Reply{Errno: api.ErrBad}, []byte{0xa0, 1}},
		{"the error 999", api.Reply{Errno: 999}, []byte{0xe7, 7}},
		{"Number, Left", api.Reply{Number: 3, Left: 2}, []byte{0, 3, 0, 4, 0, 0, 0}},
		{"Filled", api.Reply{Filled: 3}, []byte{0, 0, 6, 0, 0, 0, 0}},
		{"a trade", api.Reply{Trades: []api.Trade{{Price: 1, Qty: 2, Number: 3, Account: 4}}}, []byte{0, 0, 0, 0, 1, 2, 4, 3, 4, 0, 0}},
		{"a zero trade", api.Reply{Trades: []api.Trade{{}}}, []byte{0, 0, 0, 0, 1, 0, 0, 0, 0, 0, 0}},
		{"one gone", api.Reply{Gone: []uint64{5}}, []byte{0, 0, 0, 0, 0, 1, 5, 0}},
		{"one gone, twice", api.Reply{Gone: []uint64{0, 0}}, []byte{0, 0, 0, 0, 0, 2, 0, 0, 0}},
		{"an account", api.Reply{Accounts: []uint32{5}}, []byte{0, 0, 0, 0, 0, 0, 1, 5}},
		{"all fields", full(), fullForm()},
		{"the greatest numbers", api.Reply{Number: math.MaxUint64, Filled: greatest, Left: least}, slices.Concat([]byte{0}, end, top, end, []byte{0, 0, 0})},
	}
}

// holdReply: r may be, and its form is that alone.
func holdReply(t *testing.T, name string, r api.Reply, form []byte) {
	t.Helper()
	if !words.MayReply(r) {
		t.Errorf("MayReply, %s: false", name)
	}
	if b, e := words.Reply(r); e != api.OK || !bytes.Equal(b, form) {
		t.Errorf("Reply, %s: %d bytes, error %d; want %d", name, len(b), e, len(form))
	}
	if got, e := words.ReadReply(form); e != api.OK || !words.SameReply(got, r) || !plainSame(got, r) {
		t.Errorf("ReadReply, %s: error %d", name, e)
	}
}

// holdNoReply: r may not be.
func holdNoReply(t *testing.T, name string, r api.Reply) {
	t.Helper()
	if words.MayReply(r) {
		t.Errorf("MayReply, %s: true", name)
	}
	if b, e := words.Reply(r); len(b) != 0 || e != api.ErrArg {
		t.Errorf("Reply, %s: %d bytes, error %d", name, len(b), e)
	}
}

// holdNoReplyForm: b is no reply's form.
func holdNoReplyForm(t *testing.T, name string, b []byte) {
	t.Helper()
	if r, e := words.ReadReply(b); !plainSame(r, api.Reply{}) || e != api.ErrForm {
		t.Errorf("ReadReply, %s: %v, error %d", name, r, e)
	}
}

// plainSame holds replies against each other by the library, none and an empty list alike.
func plainSame(a, b api.Reply) bool {
	for _, r := range []*api.Reply{&a, &b} {
		r.Trades = append([]api.Trade{}, r.Trades...)
		r.Gone = append([]uint64{}, r.Gone...)
		r.Accounts = append([]uint32{}, r.Accounts...)
	}
	return reflect.DeepEqual(a, b)
}

// P15.2: forms written out: what was written is read.
func TestReplies(t *testing.T) {
	for _, x := range replies() {
		holdReply(t, x.name, x.r, x.form)
	}
}

// P15.2: errors are 0 to 999.
func TestReplyErrnos(t *testing.T) {
	for errno := range api.Errno(1000) {
		if r := (api.Reply{Errno: errno}); !words.MayReply(r) {
			t.Errorf("MayReply of the error %d: false", errno)
		}
	}
	for _, errno := range []api.Errno{-1, 1000, -999, 1 << 32, 1<<32 + 7, 1 << 62, math.MaxInt64, math.MinInt64} {
		holdNoReply(t, "an errno", api.Reply{Errno: errno})
		holdNoReply(t, "an errno and Number", api.Reply{Errno: errno, Number: 1})
	}
	holdNoReplyForm(t, "the error 1000", []byte{0xe8, 7})
	holdNoReplyForm(t, "the error 2^32", []byte{0x80, 0x80, 0x80, 0x80, 0x10})
	holdNoReplyForm(t, "the error 2^64 - 1", slices.Concat(bytes.Repeat([]byte{0xff}, 9), []byte{1}))
	holdNoReplyForm(t, "the error 2^64", slices.Concat(bytes.Repeat([]byte{0x80}, 9), []byte{2}))
}

// changes make one field of a reply another one.
func changes() map[string]func(r *api.Reply) {
	return map[string]func(r *api.Reply){
		"Number":   func(r *api.Reply) { r.Number++ },
		"Filled":   func(r *api.Reply) { r.Filled-- },
		"Left":     func(r *api.Reply) { r.Left++ },
		"Trades":   func(r *api.Reply) { r.Trades = append(r.Trades, api.Trade{}) },
		"Gone":     func(r *api.Reply) { r.Gone = append(r.Gone, 0) },
		"Accounts": func(r *api.Reply) { r.Accounts = append(r.Accounts, 0) },
	}
}

// P15.2: behind an error all else is zero: each field by itself; none and an empty list are alike there, too.
func TestReplyBesideAnError(t *testing.T) {
	for _, errno := range []api.Errno{1, 7, 160, 999} {
		for name, change := range changes() {
			r := api.Reply{Errno: errno}
			change(&r)
			holdNoReply(t, name, r)
		}
		r := full()
		r.Errno = errno
		holdNoReply(t, "all fields", r)
		holdNoReplyForm(t, "an error and noughts", []byte{1, 0, 0, 0, 0, 0, 0})
	}
	holdReply(t, "an error and empty lists", api.Reply{Errno: 7, Trades: []api.Trade{}, Gone: []uint64{}, Accounts: []uint32{}}, []byte{7})
	holdReply(t, "OK and empty lists", api.Reply{Trades: []api.Trade{}, Gone: []uint64{}, Accounts: []uint32{}}, []byte{0, 0, 0, 0, 0, 0, 0})
}

// P15.2: of each list at most 4000; all at once.
func TestReplyLists(t *testing.T) {
	trades, gone, accounts := make([]api.Trade, 4001), make([]uint64, 4001), make([]uint32, 4001)
	for i := range 4001 {
		trades[i], gone[i], accounts[i] = api.Trade{Price: int64(i), Qty: -int64(i), Number: uint64(i), Account: uint32(i)}, uint64(i)<<40, uint32(i)
	}
	most := api.Reply{Trades: trades[:4000], Gone: gone[:4000], Accounts: accounts[:4000]}
	holdReply(t, "4000 each", most, plainReply(most))
	for name, r := range map[string]api.Reply{
		"4001 trades": {Trades: trades}, "4001 gone": {Gone: gone}, "4001 accounts": {Accounts: accounts}, "4001 each": {Trades: trades, Gone: gone, Accounts: accounts},
		"4001 trades beside others": {Trades: trades, Gone: gone[:4000], Accounts: accounts[:1]}, "4001 gone beside others": {Trades: trades[:1], Gone: gone, Accounts: accounts[:1]},
		"4001 accounts beside others": {Trades: trades[:1], Gone: gone[:1], Accounts: accounts},
	} {
		holdNoReply(t, name, r)
		holdNoReplyForm(t, name, plainReply(r))
	}
}

// P15.2: how many there are, but fewer there; so many as none may be.
func TestReplyCounts(t *testing.T) {
	for _, many := range [][]byte{{1}, {2}, {0xa0, 0x1f}, {0xa1, 0x1f}, {0xff, 0xff, 3}, slices.Concat(bytes.Repeat([]byte{0xff}, 9), []byte{1})} {
		holdNoReplyForm(t, "trades", slices.Concat([]byte{0, 0, 0, 0}, many))
		holdNoReplyForm(t, "gone", slices.Concat([]byte{0, 0, 0, 0, 0}, many))
		holdNoReplyForm(t, "accounts", slices.Concat([]byte{0, 0, 0, 0, 0, 0}, many))
	}
}

// P15.2: bytes that end too early, and such behind the form.
func TestReplyBytesMoreOrLess(t *testing.T) {
	for _, x := range replies() {
		for size := range x.form {
			holdNoReplyForm(t, x.name+", cut", x.form[:size])
		}
		for _, behind := range [][]byte{{0}, {1}, {0x80}, {0xff, 1}, x.form} {
			holdNoReplyForm(t, x.name+", more", slices.Concat(x.form, behind))
		}
	}
	holdNoReplyForm(t, "nothing", nil)
	holdNoReplyForm(t, "nothing", []byte{})
}

// P15.2: a number that has another form, or does not fit its field, is none.
func TestReplyNumbersThatDoNotFit(t *testing.T) {
	beyond := []byte{0x81, 0x80, 0x80, 0x80, 0x10} // 2^32 + 1
	for name, b := range map[string][]byte{
		"the account of a trade":      slices.Concat([]byte{0, 0, 0, 0, 1, 0, 0, 0}, beyond, []byte{0, 0}),
		"an account":                  slices.Concat([]byte{0, 0, 0, 0, 0, 0, 1}, beyond),
		"an error in two digits":      {0x87, 0},
		"no error in two digits":      {0x80, 0, 0, 0, 0, 0, 0, 0},
		"a Number in two digits":      {0, 0x83, 0, 0, 4, 0, 0, 0},
		"a Left in two digits":        {0, 3, 0, 0x84, 0, 0, 0, 0},
		"how many in two digits":      {0, 3, 0, 4, 0x80, 0, 0, 0},
		"one gone in two digits":      {0, 3, 0, 4, 0, 1, 0x85, 0, 0},
		"an account in two digits":    {0, 3, 0, 4, 0, 0, 1, 0x85, 0},
		"a trade's Qty in two digits": {0, 3, 0, 4, 1, 2, 0x84, 0, 3, 4, 0, 0},
		"many bytes":                  bytes.Repeat([]byte{0xff}, 5000),
		"many noughts":                make([]byte, 5000),
	} {
		holdNoReplyForm(t, name, b)
	}
}

// P15.2: SameReply: each field, each element, each number of it; of replies that may not be, too.
func TestSameReply(t *testing.T) {
	for _, errno := range []api.Errno{0, 7, -1, 5000} {
		base := func() api.Reply { r := full(); r.Errno = errno; return r }
		if !words.SameReply(base(), base()) {
			t.Errorf("SameReply of alike ones, error %d: false", errno)
		}
		others := changes()
		others["Errno"] = func(r *api.Reply) { r.Errno++ }
		others["a trade's Price"] = func(r *api.Reply) { r.Trades[1].Price++ }
		others["a trade's Qty"] = func(r *api.Reply) { r.Trades[0].Qty++ }
		others["a trade's Number"] = func(r *api.Reply) { r.Trades[1].Number-- }
		others["a trade's Account"] = func(r *api.Reply) { r.Trades[0].Account++ }
		others["one gone"] = func(r *api.Reply) { r.Gone[1]++ }
		others["an account"] = func(r *api.Reply) { r.Accounts[2]++ }
		others["no trades"] = func(r *api.Reply) { r.Trades = nil }
		others["fewer trades"] = func(r *api.Reply) { r.Trades = r.Trades[:1] }
		others["fewer gone"] = func(r *api.Reply) { r.Gone = r.Gone[:1] }
		others["fewer accounts"] = func(r *api.Reply) { r.Accounts = r.Accounts[:2] }
		others["trades the other way"] = func(r *api.Reply) { slices.Reverse(r.Trades) }
		others["gone the other way"] = func(r *api.Reply) { slices.Reverse(r.Gone) }
		others["accounts the other way"] = func(r *api.Reply) { slices.Reverse(r.Accounts) }
		for name, change := range others {
			r := base()
			change(&r)
			if words.SameReply(base(), r) || words.SameReply(r, base()) {
				t.Errorf("SameReply, %s, error %d: true", name, errno)
			}
		}
	}
	if !words.SameReply(api.Reply{Trades: []api.Trade{}}, api.Reply{Gone: []uint64{}, Accounts: []uint32{}}) {
		t.Error("SameReply of none and empty lists: false")
	}
	long := api.Reply{Gone: make([]uint64, 10000)}
	if !words.SameReply(long, api.Reply{Gone: make([]uint64, 10000)}) || words.SameReply(long, api.Reply{Gone: make([]uint64, 9999)}) {
		t.Error("SameReply of long lists")
	}
}

// P15.2, R2: what is handed in stays as it was and is not kept; an answer is new, and its lists share nothing.
func TestReplyBytesAreNotShared(t *testing.T) {
	b := fullForm()
	got, _ := words.ReadReply(b)
	if !bytes.Equal(b, fullForm()) {
		t.Error("ReadReply wrote to what it was handed")
	}
	clear(b)
	if !plainSame(got, full()) {
		t.Errorf("ReadReply keeps what it was handed: %v", got)
	}
	r := full()
	one, _ := words.Reply(r)
	if !plainSame(r, full()) {
		t.Error("Reply wrote to what it was handed")
	}
	two, _ := words.Reply(r)
	clear(one)
	clear(r.Gone)
	if !bytes.Equal(two, fullForm()) {
		t.Errorf("answers share bytes: % x", two)
	}
	words.SameReply(r, full())
	words.MayReply(r)
}
