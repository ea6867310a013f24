package office

import (
	"slices"

	"swinggate/api"
	"swinggate/ledger"
	"swinggate/pass"
	"swinggate/ring"
)

// clerk of an office, which is the clerk's own to change, its rules, and the request that is done.
type clerk struct {
	api.Office
	rules api.Rules
	asked api.Request
}

// bill: what is to be paid (below 0: what is given back), and the account that it is from.
type bill struct{ pence, account int }

// deeds of a clerk by their kinds.
func (c *clerk) deeds() map[int]func() (bill, api.Errno) {
	return map[int]func() (bill, api.Errno){
		api.Buy:     c.buy,
		api.Renew:   c.renew,
		api.Refund:  c.refund,
		api.Replace: c.replace,
		api.NewKey:  c.newKey,
		api.OldKey:  c.oldKey,
		api.Tick:    c.tick,
	}
}

// serve a request that was not done; what is to be paid.
func (c *clerk) serve() (int, api.Errno) {
	if err := c.checkAsked(); err != api.OK {
		return 0, err
	}
	b, err := c.deeds()[c.asked.Kind]()
	if err != api.OK {
		return 0, err
	}
	if err := c.post(b); err != api.OK {
		return 0, err
	}
	c.Done = append(c.Done, c.asked)
	return b.pence, api.OK
}

// checkAsked: whether what is asked is a request that may be done now.
func (c *clerk) checkAsked() api.Errno {
	no := c.asked.No
	switch {
	case no <= 0:
		return api.ErrRange
	case slices.ContainsFunc(c.Ledger, func(p api.Posting) bool { return p.Id == no }):
		return api.ErrTwice
	case c.deeds()[c.asked.Kind] == nil:
		return api.ErrKind
	case c.asked != named(c.asked):
		return api.ErrForm
	case len(c.Done) == api.MaxDone:
		return api.ErrMany
	}
	return api.OK
}

// named: a request of just those fields that its kind names.
func named(q api.Request) api.Request {
	out := api.Request{No: q.No, Kind: q.Kind}
	switch q.Kind {
	case api.Buy:
		out.Pass, out.Born, out.A, out.B, out.Term = q.Pass, q.Born, q.A, q.B, q.Term
	case api.Renew:
		out.Pass, out.Term = q.Pass, q.Term
	case api.Refund, api.Replace:
		out.Pass = q.Pass
	case api.NewKey:
		out.K = q.K
	case api.OldKey:
		out.Epoch = q.Epoch
	}
	return out
}

func (c *clerk) buy() (bill, api.Errno) {
	q := c.asked
	if placeOfPass(c.Passes, q.Pass) >= 0 {
		return bill{}, api.ErrTwice
	}
	if len(c.Passes) == api.MaxPasses {
		return bill{}, api.ErrMany
	}
	p, err := pass.New(q.Pass, q.Born, q.A, q.B, c.Day, q.Term)
	if err != api.OK {
		return bill{}, err
	}
	c.Passes = append(c.Passes, p)
	return c.sell(p, p.Days[0])
}

func (c *clerk) renew() (bill, api.Errno) {
	i := placeOfPass(c.Passes, c.asked.Pass)
	if i < 0 {
		return bill{}, api.ErrNone
	}
	p, more, err := pass.Renew(c.Passes[i], c.Day, c.asked.Term)
	if err != api.OK {
		return bill{}, err
	}
	c.Passes[i] = p
	end := p.Days[len(p.Days)-1].To
	return c.sell(p, api.Span{From: end - more, To: end})
}

// refund what was paid last, less what the days that were used would have been sold for, and the fee.
func (c *clerk) refund() (bill, api.Errno) {
	i, k := placeOfPass(c.Passes, c.asked.Pass), placeOfSale(c.Sales, c.asked.Pass)
	if i < 0 || k < 0 {
		return bill{}, api.ErrNone
	}
	s := c.Sales[k]
	used := max(0, min(s.Days.To, c.Day)-s.Days.From)
	worth, err := c.price(c.Passes[i], used)
	if err != api.OK {
		return bill{}, err
	}
	// The days of an older sale, which stand ahead of this one's, are not given back.
	if from := max(c.Day, s.Days.From); from <= api.LastDay {
		if c.Passes[i], _, err = pass.Cut(c.Passes[i], from); err != api.OK {
			return bill{}, err
		}
	}
	c.Sales = slices.Delete(c.Sales, k, k+1)
	return bill{pence: -max(0, s.Paid-worth-c.rules.RefundFee), account: api.Revenue}, api.OK
}

func (c *clerk) replace() (bill, api.Errno) {
	i := placeOfPass(c.Passes, c.asked.Pass)
	if i < 0 {
		return bill{}, api.ErrNone
	}
	p, err := pass.Replace(c.Passes[i])
	if err != api.OK {
		return bill{}, err
	}
	c.Passes[i] = p
	return bill{pence: c.rules.ReplaceFee, account: api.Fees}, api.OK
}

func (c *clerk) newKey() (bill, api.Errno) {
	r, err := ring.Add(c.Ring, c.asked.K)
	c.Ring = r
	return bill{}, err
}

func (c *clerk) oldKey() (bill, api.Errno) {
	r, err := ring.Drop(c.Ring, c.asked.Epoch)
	c.Ring = r
	return bill{}, err
}

func (c *clerk) tick() (bill, api.Errno) {
	if c.Day == api.LastDay {
		return bill{}, api.ErrOver
	}
	c.Day++
	return bill{}, api.OK
}

// sell days of a pass. The sale stands in the place of the pass's old one, or behind the others'.
func (c *clerk) sell(p api.Pass, days api.Span) (bill, api.Errno) {
	paid, err := c.price(p, days.To-days.From)
	if err != api.OK {
		return bill{}, err
	}
	s := api.Sale{Pass: p.Id, Paid: paid, Days: days}
	if i := placeOfSale(c.Sales, p.Id); i >= 0 {
		c.Sales[i] = s
	} else {
		c.Sales = append(c.Sales, s)
	}
	return bill{pence: paid, account: api.Revenue}, api.OK
}

// price of so many days of a pass, bought today.
func (c *clerk) price(p api.Pass, days int) (int, api.Errno) {
	return Price(c.rules, p.Born, p.A, p.B, c.Day, days)
}

// post what is to be paid, if anything is.
func (c *clerk) post(b bill) api.Errno {
	if b.pence == 0 {
		return api.OK
	}
	p := api.Posting{Id: c.asked.No, Lines: []api.Line{{Account: api.Cash, Pence: b.pence}, {Account: b.account, Pence: -b.pence}}}
	l, err := ledger.Post(c.Ledger, p)
	c.Ledger = l
	return err
}
