package words_test

import (
	"bytes"
	"math"
	"slices"
	"testing"

	"broadside/api"
	"broadside/words"
)

const (
	least    = math.MinInt64
	greatest = math.MaxInt64
	last     = math.MaxUint32
)

// sample is layer 4's contract, and its form.
func sample() api.Spec {
	s := api.Spec{Number: 1, Route: 1, Tick: 5, Lot: 10, Band: 100, Limit: 1000, LastDay: 9, First: 1000}
	s.Shifts[3], s.Shifts[9] = 50, -50
	return s
}

func sampleForm() []byte {
	return []byte{
		1, 1, 5, 10, 100, 0xe8, 7,
		0, 0, 0, 100, 0, 0, 0, 0, 0, 99, 0, 0, 0, 0, 0, 0,
		0, 9, 0xe8, 7,
	}
}

// written is a command and its form.
type written struct {
	name string
	c    api.Command
	form []byte
}

// commands are such that may be, of each kind, some with numbers that no venue takes.
func commands() []written {
	end := []byte{0xff, 0xff, 0xff, 0xff, 0xff, 0xff, 0xff, 0xff, 0xff, 1}
	top := bytes.Replace(end, []byte{0xff}, []byte{0xfe}, 1)
	third := []byte{0xff, 0xff, 0xff, 0xff, 0x0f}
	return []written{
		{"deposit", api.Command{Kind: api.CmdDeposit, Account: 1, Amount: 5}, []byte{1, 1, 10}},
		{"deposit of nothing", api.Command{Kind: api.CmdDeposit}, []byte{1, 0, 0}},
		{"deposit, the greatest numbers", api.Command{Kind: api.CmdDeposit, Account: last, Amount: greatest}, slices.Concat([]byte{1}, third, top)},
		{"deposit, the least number", api.Command{Kind: api.CmdDeposit, Amount: least}, slices.Concat([]byte{1, 0}, end)},
		{"withdrawal", api.Command{Kind: api.CmdWithdraw, Account: 300, Amount: -1}, []byte{2, 0xac, 2, 1}},
		{"list", api.Command{Kind: api.CmdList, Spec: sample()}, slices.Concat([]byte{3}, sampleForm())},
		{"halt", api.Command{Kind: api.CmdHalt, Contract: 7, On: true}, []byte{4, 7, 1}},
		{"halt no more", api.Command{Kind: api.CmdHalt, Contract: 7}, []byte{4, 7, 0}},
		{"new", api.Command{Kind: api.CmdNew, Account: 1, Contract: 2, Buy: true, As: api.KindAll, Price: 4, Qty: 5}, []byte{5, 1, 2, 1, 3, 8, 10}},
		{"new, nothing said", api.Command{Kind: api.CmdNew}, []byte{5, 0, 0, 0, 0, 0, 0}},
		{"new, below 0", api.Command{Kind: api.CmdNew, Account: 3, Contract: 2, As: 200, Price: -4, Qty: -300}, []byte{5, 3, 2, 0, 0xc8, 1, 7, 0xd7, 4}},
		{"new, no such way", api.Command{Kind: api.CmdNew, Account: 3, Contract: 2, As: 255, Price: 1, Qty: 2}, []byte{5, 3, 2, 0, 0xff, 1, 2, 4}},
		{"cancel", api.Command{Kind: api.CmdCancel, Account: 1, Number: 300}, []byte{6, 1, 0xac, 2}},
		{"cancel, the greatest number", api.Command{Kind: api.CmdCancel, Account: 1, Number: math.MaxUint64}, slices.Concat([]byte{6, 1}, end)},
		{"replace", api.Command{Kind: api.CmdReplace, Account: 1, Number: 2, Price: 3, Qty: 4}, []byte{7, 1, 2, 6, 8}},
		{"mass", api.Command{Kind: api.CmdMass, Account: 9, Contract: 8}, []byte{8, 9, 8}},
		{"bid", api.Command{Kind: api.CmdBid, Account: 1, Contract: 2, Buy: true, Price: 3, Qty: 4}, []byte{9, 1, 2, 1, 6, 8}},
		{"kill", api.Command{Kind: api.CmdKill, Account: 6, On: true}, []byte{10, 6, 1}},
		{"publish", api.Command{Kind: api.CmdPublish, Contract: 6, Price: 100}, []byte{11, 6, 0xc8, 1}},
		{"settle", api.Command{Kind: api.CmdSettle}, []byte{12}},
		{"liquidate", api.Command{Kind: api.CmdLiquidate, Account: 5}, []byte{13, 5}},
		{"expire", api.Command{Kind: api.CmdExpire, Contract: 5}, []byte{14, 5}},
	}
}

// holdCommand: c may be, and its form is that alone.
func holdCommand(t *testing.T, name string, c api.Command, form []byte) {
	t.Helper()
	if !words.MayCommand(c) {
		t.Errorf("MayCommand, %s: false", name)
	}
	if b, e := words.Command(c); e != api.OK || !bytes.Equal(b, form) {
		t.Errorf("Command, %s: % x, error %d; want % x", name, b, e, form)
	}
	if got, e := words.ReadCommand(form); e != api.OK || got != c {
		t.Errorf("ReadCommand, %s, % x: %v, error %d", name, form, got, e)
	}
}

// holdNoCommand: c may not be.
func holdNoCommand(t *testing.T, name string, c api.Command) {
	t.Helper()
	if words.MayCommand(c) {
		t.Errorf("MayCommand, %s: true", name)
	}
	if b, e := words.Command(c); len(b) != 0 || e != api.ErrArg {
		t.Errorf("Command, %s: % x, error %d", name, b, e)
	}
}

// holdNoForm: b is no command's form.
func holdNoForm(t *testing.T, name string, b []byte) {
	t.Helper()
	if c, e := words.ReadCommand(b); c != (api.Command{}) || e != api.ErrForm {
		t.Errorf("ReadCommand, %s, % x: %v, error %d", name, b, c, e)
	}
}

// P15.1: forms written out, of each kind: what was written is read.
func TestCommands(t *testing.T) {
	kinds := map[api.Cmd]bool{}
	for _, w := range commands() {
		holdCommand(t, w.name, w.c, w.form)
		kinds[w.c.Kind] = true
	}
	if len(kinds) != 14 {
		t.Errorf("%d kinds are told", len(kinds))
	}
}

// field is one of a command's: it is made not zero.
type field struct {
	name string
	set  func(c *api.Command)
}

func fields() []field {
	return []field{
		{"Account", func(c *api.Command) { c.Account = 1 }},
		{"Contract", func(c *api.Command) { c.Contract = 1 }},
		{"Number", func(c *api.Command) { c.Number = 1 }},
		{"Amount", func(c *api.Command) { c.Amount = -1 }},
		{"Spec", func(c *api.Command) { c.Spec = sample() }},
		{"On", func(c *api.Command) { c.On = true }},
		{"Buy", func(c *api.Command) { c.Buy = true }},
		{"As", func(c *api.Command) { c.As = 1 }},
		{"Price", func(c *api.Command) { c.Price = 1 }},
		{"Qty", func(c *api.Command) { c.Qty = -1 }},
	}
}

// table is which fields a kind has, as the chapter's table tells it.
func table() map[api.Cmd][]string {
	return map[api.Cmd][]string{
		api.CmdDeposit: {"Account", "Amount"}, api.CmdWithdraw: {"Account", "Amount"}, api.CmdList: {"Spec"}, api.CmdHalt: {"Contract", "On"},
		api.CmdNew: {"Account", "Contract", "Buy", "As", "Price", "Qty"}, api.CmdCancel: {"Account", "Number"},
		api.CmdReplace: {"Account", "Number", "Price", "Qty"}, api.CmdMass: {"Account", "Contract"},
		api.CmdBid: {"Account", "Contract", "Buy", "Price", "Qty"}, api.CmdKill: {"Account", "On"}, api.CmdPublish: {"Contract", "Price"},
		api.CmdSettle: {}, api.CmdLiquidate: {"Account"}, api.CmdExpire: {"Contract"},
	}
}

// P15.1: each field by itself is of those kinds alone that have it; a byte of it is enough.
func TestFieldsOfOthers(t *testing.T) {
	for kind, has := range table() {
		for _, f := range fields() {
			c := api.Command{Kind: kind}
			if kind == api.CmdList {
				c.Spec = sample()
			}
			f.set(&c)
			if slices.Contains(has, f.name) != words.MayCommand(c) {
				t.Errorf("MayCommand of the kind %d with %s: %v", kind, f.name, !slices.Contains(has, f.name))
			}
			if !slices.Contains(has, f.name) {
				holdNoCommand(t, f.name, c)
			}
		}
	}
	for _, w := range commands() {
		for _, f := range fields() {
			c := w.c
			f.set(&c)
			if !slices.Contains(table()[w.c.Kind], f.name) {
				holdNoCommand(t, w.name+" with "+f.name, c)
			}
		}
	}
}

// P15.1: a contract's data of another kind, of which one number alone is not zero.
func TestSpecOfOthers(t *testing.T) {
	for _, set := range []func(s *api.Spec){
		func(s *api.Spec) { s.Number = 1 }, func(s *api.Spec) { s.Route = 1 }, func(s *api.Spec) { s.Tick = 1 }, func(s *api.Spec) { s.Lot = 1 },
		func(s *api.Spec) { s.Band = 1 }, func(s *api.Spec) { s.Limit = 1 }, func(s *api.Spec) { s.Shifts[0] = 1 }, func(s *api.Spec) { s.Shifts[15] = -1 },
		func(s *api.Spec) { s.Credit = 1 }, func(s *api.Spec) { s.LastDay = 1 }, func(s *api.Spec) { s.First = 1 },
	} {
		for _, w := range commands() {
			if w.c.Kind != api.CmdList {
				c := w.c
				set(&c.Spec)
				holdNoCommand(t, w.name, c)
			}
		}
	}
}

// P15.1: the kinds are fourteen, from 1 on.
func TestKinds(t *testing.T) {
	for kind := range 256 {
		c := api.Command{Kind: api.Cmd(kind)}
		if kind == int(api.CmdList) {
			c.Spec = sample()
		}
		if kind >= 1 && kind <= 14 {
			if !words.MayCommand(c) {
				t.Errorf("MayCommand of the kind %d: false", kind)
			}
			continue
		}
		holdNoCommand(t, "no kind", c)
		for _, f := range fields() {
			d := c
			f.set(&d)
			holdNoCommand(t, "no kind, with "+f.name, d)
		}
	}
	holdNoCommand(t, "the zero command", api.Command{})
}

// P15.1: of a list the data may be; those that may not be are neither written nor read.
func TestListOfBadData(t *testing.T) {
	for name, set := range map[string]func(s *api.Spec){
		"zero": func(s *api.Spec) { *s = api.Spec{} }, "Number 0": func(s *api.Spec) { s.Number = 0 }, "Route 9": func(s *api.Spec) { s.Route = 9 },
		"First no price": func(s *api.Spec) { s.First = 1001 }, "none up": func(s *api.Spec) { s.Shifts[3] = 0 }, "Tick below 0": func(s *api.Spec) { s.Tick = -5 },
		"Lot 0": func(s *api.Spec) { s.Lot = 0 }, "Limit too great": func(s *api.Spec) { s.Limit = greatest },
	} {
		c := api.Command{Kind: api.CmdList, Spec: sample()}
		set(&c.Spec)
		holdNoCommand(t, name, c)
	}
	form := slices.Concat([]byte{3}, sampleForm())
	for name, change := range map[string][2]int{"Number 0": {1, 0}, "Route 9": {2, 9}, "Route 0": {2, 0}, "Tick 0": {3, 0}, "Tick 3": {3, 3}, "Lot 0": {4, 0}, "none up": {11, 0}, "none down": {17, 0}} {
		b := bytes.Clone(form)
		b[change[0]] = byte(change[1])
		holdNoForm(t, name, b)
	}
	holdNoForm(t, "no data", []byte{3})
}

// P15.1: bytes that end too early, and such behind the form.
func TestCommandBytesMoreOrLess(t *testing.T) {
	for _, w := range commands() {
		for size := range w.form {
			holdNoForm(t, w.name+", cut", w.form[:size])
		}
		for _, behind := range [][]byte{{0}, {1}, {0x80}, {0xff, 1}, w.form, make([]byte, 3000)} {
			holdNoForm(t, w.name+", more", slices.Concat(w.form, behind))
		}
	}
	holdNoForm(t, "nothing", nil)
	holdNoForm(t, "nothing", []byte{})
}

// P15.1: a number that has another form, or does not fit its field, is none: no number is wrapped.
func TestCommandNumbersThatDoNotFit(t *testing.T) {
	beyond := []byte{0x81, 0x80, 0x80, 0x80, 0x10} // 2^32 + 1
	for name, b := range map[string][]byte{
		"the kind 0":                         {0},
		"the kind 15":                        {15},
		"the kind 99":                        {99},
		"the kind 2^8 + 12":                  {0x8c, 2},
		"the kind 2^8 + 1":                   {0x81, 2, 1, 10},
		"the kind 2^32 + 12":                 {0x8c, 0x80, 0x80, 0x80, 0x10},
		"the kind 12 in two digits":          {0x8c, 0},
		"the account 2^32 + 1":               slices.Concat([]byte{1}, beyond, []byte{10}),
		"the contract 2^32 + 1":              slices.Concat([]byte{14}, beyond),
		"the contract of a halt":             slices.Concat([]byte{4}, beyond, []byte{1}),
		"the account of a mass":              slices.Concat([]byte{8}, beyond, []byte{1}),
		"the contract of a mass":             slices.Concat([]byte{8, 1}, beyond),
		"As 2^8 + 1":                         {5, 1, 2, 1, 0x81, 2, 8, 10},
		"As 2^8":                             {5, 1, 2, 1, 0x80, 2, 8, 10},
		"Buy 2":                              {5, 1, 2, 2, 3, 8, 10},
		"Buy 0x80":                           {5, 1, 2, 0x80, 0, 3, 8, 10},
		"On 2":                               {4, 7, 2},
		"On 0xff":                            {10, 7, 0xff},
		"an account in two digits":           {13, 0x85, 0},
		"an amount in two digits":            {1, 1, 0x8a, 0},
		"a number of 2^64":                   slices.Concat([]byte{6, 1}, bytes.Repeat([]byte{0x80}, 9), []byte{2}),
		"a number of eleven digits":          slices.Concat([]byte{6, 1}, bytes.Repeat([]byte{0x80}, 10), []byte{1}),
		"a price of 2^64":                    slices.Concat([]byte{11, 1}, bytes.Repeat([]byte{0x80}, 9), []byte{2}),
		"fields of a kind that is none":      {15, 1, 1},
		"a deposit's fields of a settlement": {12, 1, 10},
		"many bytes":                         bytes.Repeat([]byte{0xff}, 5000),
		"many noughts":                       make([]byte, 5000),
	} {
		holdNoForm(t, name, b)
	}
}

// P15.1, R2: what is handed in stays as it was and is not kept; an answer is new.
func TestCommandBytesAreNotShared(t *testing.T) {
	for _, w := range commands() {
		b, copied := bytes.Clone(w.form), bytes.Clone(w.form)
		c, _ := words.ReadCommand(b)
		if !bytes.Equal(b, copied) {
			t.Errorf("ReadCommand, %s: wrote to what it was handed", w.name)
		}
		clear(b)
		one, _ := words.Command(c)
		two, _ := words.Command(c)
		clear(one)
		if !bytes.Equal(two, w.form) {
			t.Errorf("Command, %s: answers share bytes: % x", w.name, two)
		}
	}
}
