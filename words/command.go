package words

import (
	"broadside/api"
	"broadside/spec"
	"broadside/wire"
)

// part is a field of commands: how it is written, read, and carried over to another command.
type part struct {
	write func(b []byte, c api.Command) []byte
	read  func(r *wire.Reader, c *api.Command)
	carry func(from api.Command, to *api.Command)
}

// MayCommand tells whether the command may be.
func MayCommand(c api.Command) bool {
	listed := api.CmdDeposit <= c.Kind && c.Kind <= api.CmdExpire
	return listed && c == bare(c) && (c.Kind != api.CmdList || spec.May(c.Spec))
}

// Command answers the form of a command that may be.
func Command(c api.Command) ([]byte, api.Errno) {
	if !MayCommand(c) {
		return nil, api.ErrArg
	}
	b := putSmall(nil, c.Kind)
	for _, p := range parts(c.Kind) {
		b = p.write(b, c)
	}
	return b, api.OK
}

// ReadCommand answers the command whose form b is.
func ReadCommand(b []byte) (api.Command, api.Errno) {
	r := wire.NewReader(b)
	c := api.Command{Kind: take8[api.Cmd](r)}
	for _, p := range parts(c.Kind) {
		p.read(r, &c)
	}
	if r.Done() != api.OK || !MayCommand(c) {
		return api.Command{}, api.ErrForm
	}
	return c, api.OK
}

// bare is the command without the fields that its kind has not.
func bare(c api.Command) api.Command {
	out := api.Command{Kind: c.Kind}
	for _, p := range parts(c.Kind) {
		p.carry(c, &out)
	}
	return out
}

// parts are the fields that commands of the kind have, in the order of their form; none, if there is no such kind.
func parts(kind api.Cmd) []part {
	account := at(func(c *api.Command) *uint32 { return &c.Account }, putSmall, take32)
	contract := at(func(c *api.Command) *uint32 { return &c.Contract }, putSmall, take32)
	number := at(func(c *api.Command) *uint64 { return &c.Number }, wire.Nat, (*wire.Reader).Nat)
	amount := at(func(c *api.Command) *int64 { return &c.Amount }, wire.Int, (*wire.Reader).Int)
	data := at(func(c *api.Command) *api.Spec { return &c.Spec }, spec.Put, spec.Take)
	on := at(func(c *api.Command) *bool { return &c.On }, wire.Flag, (*wire.Reader).Flag)
	buy := at(func(c *api.Command) *bool { return &c.Buy }, wire.Flag, (*wire.Reader).Flag)
	as := at(func(c *api.Command) *api.Kind { return &c.As }, putSmall, take8)
	price := at(func(c *api.Command) *int64 { return &c.Price }, wire.Int, (*wire.Reader).Int)
	qty := at(func(c *api.Command) *int64 { return &c.Qty }, wire.Int, (*wire.Reader).Int)
	switch kind {
	case api.CmdDeposit, api.CmdWithdraw:
		return []part{account, amount}
	case api.CmdList:
		return []part{data}
	case api.CmdHalt:
		return []part{contract, on}
	case api.CmdNew:
		return []part{account, contract, buy, as, price, qty}
	case api.CmdCancel:
		return []part{account, number}
	case api.CmdReplace:
		return []part{account, number, price, qty}
	case api.CmdMass:
		return []part{account, contract}
	case api.CmdBid:
		return []part{account, contract, buy, price, qty}
	case api.CmdKill:
		return []part{account, on}
	case api.CmdPublish:
		return []part{contract, price}
	case api.CmdLiquidate:
		return []part{account}
	case api.CmdExpire:
		return []part{contract}
	}
	return nil
}

// at makes a part out of the field's place, and how one of its type is written and read.
func at[T any](place func(*api.Command) *T, put func([]byte, T) []byte, take func(*wire.Reader) T) part {
	return part{
		write: func(b []byte, c api.Command) []byte { return put(b, *place(&c)) },
		read:  func(r *wire.Reader, c *api.Command) { *place(c) = take(r) },
		carry: func(from api.Command, to *api.Command) { *place(to) = *place(&from) },
	}
}
