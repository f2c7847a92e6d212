package words_test

import (
	"bytes"
	"encoding/binary"
	"math/rand"
	"reflect"
	"testing"

	"broadside/api"
	"broadside/spec"
	"broadside/words"
)

// plainCommand is a command's form by the library's forms of single numbers, which are layer 2's, field by field out of the chapter's table.
func plainCommand(c api.Command) []byte {
	b := []byte{byte(c.Kind)}
	if c.Kind == api.CmdList {
		data, _ := spec.Bytes(c.Spec)
		return append(b, data...)
	}
	v := reflect.ValueOf(c)
	for _, name := range table()[c.Kind] {
		f := v.FieldByName(name)
		switch {
		case f.Kind() == reflect.Bool && f.Bool():
			b = append(b, 1)
		case f.Kind() == reflect.Bool:
			b = append(b, 0)
		case f.CanInt():
			b = binary.AppendVarint(b, f.Int())
		default:
			b = binary.AppendUvarint(b, f.Uint())
		}
	}
	return b
}

// plainReply is likewise a reply's form; of any that is no error.
func plainReply(r api.Reply) []byte {
	b := binary.AppendUvarint(nil, uint64(r.Errno))
	if r.Errno != api.OK {
		return b
	}
	b = binary.AppendUvarint(b, r.Number)
	b = binary.AppendVarint(b, r.Filled)
	b = binary.AppendVarint(b, r.Left)
	b = binary.AppendUvarint(b, uint64(len(r.Trades)))
	for _, x := range r.Trades {
		b = binary.AppendVarint(b, x.Price)
		b = binary.AppendVarint(b, x.Qty)
		b = binary.AppendUvarint(b, x.Number)
		b = binary.AppendUvarint(b, uint64(x.Account))
	}
	b = binary.AppendUvarint(b, uint64(len(r.Gone)))
	for _, x := range r.Gone {
		b = binary.AppendUvarint(b, x)
	}
	b = binary.AppendUvarint(b, uint64(len(r.Accounts)))
	for _, x := range r.Accounts {
		b = binary.AppendUvarint(b, uint64(x))
	}
	return b
}

// chanceNumber is a number of any size.
func chanceNumber(r *rand.Rand) uint64 { return r.Uint64() >> r.Intn(64) }

func chanceWhole(r *rand.Rand) int64 { return int64(chanceNumber(r)) * (1 - 2*r.Int63n(2)) }

func chanceSpec(r *rand.Rand) api.Spec {
	s := sample()
	s.Number, s.LastDay = uint32(chanceNumber(r))|1, uint32(chanceNumber(r))
	s.Band, s.Limit, s.Credit = r.Int63n(10_000_001), 1+r.Int63n(10_000_000), r.Int63n(300)
	s.Shifts[r.Intn(16)] += r.Int63n(40)
	return s
}

// chanceCommand is one of any kind, with any numbers in the fields that it has.
func chanceCommand(r *rand.Rand) api.Command {
	c := api.Command{Kind: api.Cmd(1 + r.Intn(14))}
	v := reflect.ValueOf(&c).Elem()
	for _, name := range table()[c.Kind] {
		f := v.FieldByName(name)
		switch {
		case name == "Spec":
			c.Spec = chanceSpec(r)
		case f.Kind() == reflect.Bool:
			f.SetBool(r.Intn(2) == 0)
		case f.CanInt():
			f.SetInt(chanceWhole(r))
		default:
			f.SetUint(chanceNumber(r) % (1 << min(f.Type().Bits(), 63)))
		}
	}
	return c
}

// chanceReply is one that may be.
func chanceReply(r *rand.Rand) api.Reply {
	if r.Intn(6) == 0 {
		return api.Reply{Errno: api.Errno(1 + r.Intn(999))}
	}
	out := api.Reply{Number: chanceNumber(r), Filled: chanceWhole(r), Left: chanceWhole(r)}
	for range r.Intn(4) * r.Intn(3) {
		out.Trades = append(out.Trades, api.Trade{Price: chanceWhole(r), Qty: chanceWhole(r), Number: chanceNumber(r), Account: uint32(chanceNumber(r))})
	}
	for range r.Intn(4) * r.Intn(3) {
		out.Gone = append(out.Gone, chanceNumber(r))
	}
	for range r.Intn(4) * r.Intn(3) {
		out.Accounts = append(out.Accounts, uint32(chanceNumber(r)))
	}
	return out
}

// spoiled are bytes near a form: a byte changed, one more, one less, or two that stand the other way.
func spoiled(r *rand.Rand, form []byte) []byte {
	b := bytes.Clone(form)
	i := r.Intn(len(b))
	switch r.Intn(6) {
	case 0:
		return append(b[:i], b[i+1:]...)
	case 1:
		return append(b[:i], append([]byte{byte(r.Intn(256))}, b[i:]...)...)
	case 2:
		j := r.Intn(len(b))
		b[i], b[j] = b[j], b[i]
	case 3:
		b[i] ^= 0x80
	default:
		b[i] = byte(r.Intn(256))
	}
	return b
}

// P15.1, what follows: what was written is read, and the form is the chapter's.
func TestChanceCommands(t *testing.T) {
	r := rand.New(rand.NewSource(151))
	for range 5000 {
		c := chanceCommand(r)
		holdCommand(t, "by chance", c, plainCommand(c))
	}
}

// P15.2, what follows: likewise of replies.
func TestChanceReplies(t *testing.T) {
	r := rand.New(rand.NewSource(152))
	for range 3000 {
		x := chanceReply(r)
		holdReply(t, "by chance", x, plainReply(x))
	}
}

// P15.1, what follows: there is one form: bytes that are read, written again, are those bytes, and nothing else is read.
func TestOneFormOfCommands(t *testing.T) {
	r := rand.New(rand.NewSource(153))
	read, refused := 0, 0
	for range 50000 {
		form := plainCommand(chanceCommand(r))
		b := spoiled(r, form)
		c, e := words.ReadCommand(b)
		if e == api.OK {
			read++
			if back, e := words.Command(c); e != api.OK || !bytes.Equal(back, b) || !bytes.Equal(plainCommand(c), b) {
				t.Fatalf("% x was read and is written % x, error %d", b, back, e)
			}
			continue
		}
		refused++
		if e != api.ErrForm || c != (api.Command{}) {
			t.Fatalf("ReadCommand of % x: %v, error %d", b, c, e)
		}
	}
	if read < 5000 || refused < 5000 {
		t.Errorf("%d read, %d refused: too few of either", read, refused)
	}
}

// P15.2, what follows: likewise of replies.
func TestOneFormOfReplies(t *testing.T) {
	r := rand.New(rand.NewSource(154))
	read, refused := 0, 0
	for range 50000 {
		b := spoiled(r, plainReply(chanceReply(r)))
		x, e := words.ReadReply(b)
		if e == api.OK {
			read++
			if back, e := words.Reply(x); e != api.OK || !bytes.Equal(back, b) || !bytes.Equal(plainReply(x), b) {
				t.Fatalf("% x was read and is written % x, error %d", b, back, e)
			}
			continue
		}
		refused++
		if e != api.ErrForm || !plainSame(x, api.Reply{}) {
			t.Fatalf("ReadReply of % x: %v, error %d", b, x, e)
		}
	}
	if read < 5000 || refused < 5000 {
		t.Errorf("%d read, %d refused: too few of either", read, refused)
	}
}

// P15.1, P15.2, R1: all bytes are read or refused; short ones all.
func TestAnyBytes(t *testing.T) {
	commands, replies := 0, 0
	try := func(b []byte) {
		c, e := words.ReadCommand(b)
		if e == api.OK {
			commands++
			if !bytes.Equal(plainCommand(c), b) {
				t.Fatalf("ReadCommand of % x: %v", b, c)
			}
		} else if e != api.ErrForm || c != (api.Command{}) {
			t.Fatalf("ReadCommand of % x: error %d", b, e)
		}
		x, e := words.ReadReply(b)
		if e == api.OK {
			replies++
			if !bytes.Equal(plainReply(x), b) {
				t.Fatalf("ReadReply of % x: %v", b, x)
			}
		} else if e != api.ErrForm || !plainSame(x, api.Reply{}) {
			t.Fatalf("ReadReply of % x: error %d", b, e)
		}
	}
	try(nil)
	for i := range 256 {
		try([]byte{byte(i)})
		for j := range 256 {
			try([]byte{byte(i), byte(j)})
		}
	}
	// One byte: a settlement; two: liquidations and expiries of 128 numbers each.
	if commands != 1+2*128 || replies != 127+872 {
		t.Errorf("of at most two bytes %d are commands, %d replies", commands, replies)
	}
	r := rand.New(rand.NewSource(155))
	for range 20000 {
		b := make([]byte, r.Intn(40))
		for i := range b {
			b[i] = byte(r.Intn(256)) >> r.Intn(8)
		}
		try(b)
	}
}
