package office

import (
	"slices"

	"swinggate/api"
	"swinggate/cover"
	"swinggate/fare"
	"swinggate/ledger"
	"swinggate/pass"
	"swinggate/ring"
	"swinggate/spans"
)

// Percents: all of a price, and the most that zones may make of one.
const (
	whole       = 100
	mostPercent = 1000
)

// Check tells what is wrong with rules and an office, if anything is.
func Check(r api.Rules, o api.Office) api.Errno {
	if err := checkRules(r); err != api.OK {
		return err
	}
	if !isWithin(o.Day, 1, api.LastDay) {
		return api.ErrRange
	}
	if err := ring.Check(o.Ring); err != api.OK {
		return err
	}
	if err := checkPasses(o.Passes); err != api.OK {
		return err
	}
	if err := checkSales(o.Sales, o.Passes); err != api.OK {
		return err
	}
	if err := ledger.Check(o.Ledger); err != api.OK {
		return err
	}
	if err := checkDone(o.Done); err != api.OK {
		return err
	}
	return checkCash(o.Ledger)
}

func isWithin(n, from, to int) bool { return from <= n && n <= to }

func checkRules(r api.Rules) api.Errno {
	if err := checkPercents(r.Fares); err != api.OK {
		return err
	}
	if err := cover.Check(r.Offers); err != api.OK {
		return err
	}
	if len(r.Classes) > api.MaxClasses {
		return api.ErrMany
	}
	if slices.ContainsFunc(r.Classes, func(c api.Class) bool { return !isClass(c) }) {
		return api.ErrRange
	}
	if !isFee(r.RefundFee) || !isFee(r.ReplaceFee) {
		return api.ErrRange
	}
	return api.OK
}

// checkPercents: fares whose prices are percents.
func checkPercents(f api.Fares) api.Errno {
	if err := fare.Check(f); err != api.OK {
		return err
	}
	for _, row := range f {
		if slices.Max(row) > mostPercent {
			return api.ErrRange
		}
	}
	return api.OK
}

func isClass(c api.Class) bool {
	return isWithin(c.To, 0, api.MaxAge-1) && isWithin(c.From, 0, c.To) && isWithin(c.Percent, 0, whole)
}

func isFee(pence int) bool { return isWithin(pence, 0, api.MaxFee) }

func checkPasses(l []api.Pass) api.Errno {
	if len(l) > api.MaxPasses {
		return api.ErrMany
	}
	for i, p := range l {
		if err := pass.Check(p); err != api.OK {
			return err
		}
		if placeOfPass(l[:i], p.Id) >= 0 {
			return api.ErrTwice
		}
	}
	return api.OK
}

func checkSales(l []api.Sale, passes []api.Pass) api.Errno {
	for i, s := range l {
		switch {
		case placeOfPass(passes, s.Pass) < 0:
			return api.ErrNone
		case placeOfSale(l[:i], s.Pass) >= 0:
			return api.ErrTwice
		case !isWithin(s.Paid, 0, api.MaxPence):
			return api.ErrRange
		}
		if err := spans.Check([]api.Span{s.Days}); err != api.OK {
			return err
		}
	}
	return api.OK
}

func checkDone(l []api.Request) api.Errno {
	if len(l) > api.MaxDone {
		return api.ErrMany
	}
	for i, q := range l {
		if placeOfRequest(l[:i], q.No) >= 0 {
			return api.ErrTwice
		}
	}
	return api.OK
}

// checkCash: more can't have been given back than there was.
func checkCash(l []api.Posting) api.Errno {
	cash, err := ledger.Balance(l, api.Cash)
	if err != api.OK {
		return err
	}
	if cash < 0 {
		return api.ErrState
	}
	return api.OK
}

// placeOfPass of an Id; below 0, if there is none.
func placeOfPass(l []api.Pass, id int) int {
	return slices.IndexFunc(l, func(p api.Pass) bool { return p.Id == id })
}

// placeOfSale of a pass; below 0, if there is none.
func placeOfSale(l []api.Sale, id int) int {
	return slices.IndexFunc(l, func(s api.Sale) bool { return s.Pass == id })
}

// placeOfRequest of a number; below 0, if there is none.
func placeOfRequest(l []api.Request, no int) int {
	return slices.IndexFunc(l, func(q api.Request) bool { return q.No == no })
}
