package office_test

import (
	"math"
	"slices"
	"testing"

	"swinggate/api"
	"swinggate/office"
)

// fault: something that makes rules or an office wrong, and what is told of it.
type fault struct {
	e      api.Errno
	change func(r *api.Rules, o *api.Office)
}

func onRules(e api.Errno, change func(r *api.Rules)) fault {
	return fault{e, func(r *api.Rules, o *api.Office) { change(r) }}
}

func onOffice(e api.Errno, change func(o *api.Office)) fault {
	return fault{e, func(r *api.Rules, o *api.Office) { change(o) }}
}

// ruleFaults, those first that the promise names first: of two in different places the one ahead tells.
func ruleFaults() [][]fault {
	price := func(a, k, price int) fault {
		return onRules(api.ErrRange, func(r *api.Rules) { r.Fares[a][k] = price })
	}
	offers := func(e api.Errno, l ...api.Offer) fault {
		return onRules(e, func(r *api.Rules) { r.Offers = l })
	}
	class := func(c api.Class) fault {
		return onRules(api.ErrRange, func(r *api.Rules) { r.Classes = append(r.Classes, c) })
	}
	fares := []fault{
		onRules(api.ErrNone, func(r *api.Rules) { r.Fares = nil }),
		onRules(api.ErrMany, func(r *api.Rules) { r.Fares = make(api.Fares, api.MaxZones+1) }),
		onRules(api.ErrForm, func(r *api.Rules) { r.Fares = api.Fares{{2000, 100}, {100, 100}} }),
		onRules(api.ErrForm, func(r *api.Rules) { r.Fares = api.Fares{{2000, 100}, {}} }),
	}
	percents := []fault{price(0, 0, 1001), price(0, 1, 1001), price(1, 0, 1001), price(1, 0, api.MaxPrice)}
	several := []fault{
		offers(api.ErrNone), onRules(api.ErrMany, func(r *api.Rules) { r.Offers = make([]api.Offer, api.MaxOffers+1) }),
		offers(api.ErrRange, api.Offer{Price: 5}), offers(api.ErrRange, api.Offer{Days: 1, Price: -1}), offers(api.ErrRange, api.Offer{Days: 1}, api.Offer{Days: api.MaxSpan + 1}),
	}
	many := []fault{
		onRules(api.ErrMany, func(r *api.Rules) { r.Classes = make([]api.Class, api.MaxClasses+1) }),
		onRules(api.ErrMany, func(r *api.Rules) { r.Classes = slices.Repeat([]api.Class{{From: 5, To: 4}}, api.MaxClasses+1) }),
	}
	classes := []fault{
		class(api.Class{From: 5, To: 4}), class(api.Class{From: -1, To: 4}), class(api.Class{From: -2, To: -1}), class(api.Class{To: api.MaxAge}),
		class(api.Class{From: api.MaxAge, To: api.MaxAge}), class(api.Class{To: 4, Percent: -1}), class(api.Class{To: 4, Percent: 101}),
	}
	var fees []fault
	for _, n := range append([]int{-1, api.MaxFee + 1}, extremes...) {
		fees = append(fees, onRules(api.ErrRange, func(r *api.Rules) { r.RefundFee = n }), onRules(api.ErrRange, func(r *api.Rules) { r.ReplaceFee = n }))
		classes = append(classes, class(api.Class{From: n, To: 4}), class(api.Class{To: choose(n == -1, math.MinInt, max(n, api.MaxAge))}), class(api.Class{To: 4, Percent: n}))
		several = append(several, offers(api.ErrRange, api.Offer{Days: n}))
		if n < 0 || n > api.MaxPrice {
			fares = append(fares, price(0, 0, n), price(0, 1, n), price(1, 0, n))
		}
	}
	return [][]fault{fares, percents, several, many, classes, fees}
}

// officeFaults, those first that the promise names first.
func officeFaults() [][]fault {
	passes := func(e api.Errno, l ...api.Pass) fault {
		return onOffice(e, func(o *api.Office) { o.Passes = append(o.Passes, l...) })
	}
	sales := func(e api.Errno, l ...api.Sale) fault {
		return onOffice(e, func(o *api.Office) { o.Sales = append(o.Sales, l...) })
	}
	postings := func(e api.Errno, l ...api.Posting) fault {
		return onOffice(e, func(o *api.Office) { o.Ledger = append(o.Ledger, l...) })
	}
	third := api.Pass{Id: 33, Born: 5, Serial: 1}
	saleOf := func(days ...int) api.Sale { return api.Sale{Pass: 3, Paid: 5, Days: set(days...)[0]} }
	var days []fault
	for _, n := range append([]int{0, -1, api.LastDay + 1}, extremes...) {
		days = append(days, onOffice(api.ErrRange, func(o *api.Office) { o.Day = n }))
	}
	rings := []fault{
		onOffice(api.ErrMany, func(o *api.Office) { o.Ring = make([]api.Epoch, api.MaxRing+1) }),
		onOffice(api.ErrRange, func(o *api.Office) { o.Ring = []api.Epoch{{No: 0}} }),
		onOffice(api.ErrState, func(o *api.Office) { o.Ring = []api.Epoch{{No: 2}, {No: 2}} }),
	}
	manyPasses := []fault{
		onOffice(api.ErrMany, func(o *api.Office) { o.Passes = make([]api.Pass, api.MaxPasses+1) }),
		onOffice(api.ErrMany, func(o *api.Office) { o.Passes = passesOf(api.MaxPasses + 1) }),
	}
	eachPass := []fault{
		passes(api.ErrRange, api.Pass{}), passes(api.ErrForm, api.Pass{Id: 33, Born: 5, Serial: 1, Days: set(5, 5)}), passes(api.ErrTwice, third, third),
		// Pass by pass: the first one of which something is wrong, and what it is ahead of its Id.
		passes(api.ErrTwice, third, third, api.Pass{}), passes(api.ErrRange, api.Pass{Id: 33}, third, third), passes(api.ErrRange, third, api.Pass{Id: 33}),
	}
	eachSale := []fault{
		sales(api.ErrNone, api.Sale{}), sales(api.ErrNone, api.Sale{Pass: 4, Paid: 5, Days: api.Span{From: 5, To: 6}}),
		sales(api.ErrTwice, saleOf(5, 6), saleOf(5, 6)), sales(api.ErrTwice, api.Sale{Pass: 1}), sales(api.ErrTwice, api.Sale{Pass: 1, Paid: -1}),
		sales(api.ErrRange, api.Sale{Pass: 3, Paid: -1, Days: api.Span{From: 5, To: 5}}), sales(api.ErrRange, api.Sale{Pass: 3, Paid: api.MaxPence + 1, Days: api.Span{From: 5, To: 6}}),
		sales(api.ErrForm, saleOf(5, 5)), sales(api.ErrForm, saleOf(5, 4)), sales(api.ErrForm, api.Sale{Pass: 3}),
		sales(api.ErrRange, saleOf(-api.MaxDay-1, 5)), sales(api.ErrRange, saleOf(5, api.MaxDay+1)), sales(api.ErrRange, saleOf(math.MinInt, math.MaxInt)),
		sales(api.ErrForm, saleOf(5, 5), api.Sale{Pass: 77}), sales(api.ErrRange, api.Sale{Pass: 3, Paid: -1}, api.Sale{Pass: 77}),
		sales(api.ErrTwice, saleOf(5, 6), saleOf(5, 5)), sales(api.ErrNone, make([]api.Sale, 1000)...),
	}
	ledgers := []fault{
		postings(api.ErrRange, api.Posting{}), postings(api.ErrForm, api.Posting{Id: 99}), postings(api.ErrState, posting(99, api.Cash, 5, api.Revenue, -4)),
		postings(api.ErrTwice, posting(99, api.Cash, 5, api.Revenue, -5), posting(99, api.Cash, 5, api.Revenue, -5)), postings(api.ErrMany, make([]api.Posting, api.MaxPostings)...),
	}
	done := []fault{
		onOffice(api.ErrMany, func(o *api.Office) { o.Done = make([]api.Request, api.MaxDone+1) }),
		onOffice(api.ErrMany, func(o *api.Office) { o.Done = requests(api.MaxDone + 1) }),
	}
	twice := []fault{
		onOffice(api.ErrTwice, func(o *api.Office) { o.Done = make([]api.Request, 2) }),
		onOffice(api.ErrTwice, func(o *api.Office) { o.Done = append(o.Done, api.Request{No: o.Done[0].No, Kind: api.Tick}) }),
	}
	cash := []fault{postings(api.ErrState, posting(99, api.Revenue, 6001, api.Cash, -6001)), postings(api.ErrState, posting(99, api.Revenue, api.MaxPence, api.Cash, -api.MaxPence))}
	return [][]fault{days, rings, manyPasses, eachPass, eachSale, ledgers, done, twice, cash}
}

// passesOf so many Ids, from 101 on.
func passesOf(many int) []api.Pass {
	var out []api.Pass
	for i := range many {
		out = append(out, api.Pass{Id: 101 + i, Born: 690000, Serial: 1, Days: set(700000, 700007)})
	}
	return out
}

// requests of so many numbers, from 1001 on.
func requests(many int) []api.Request {
	var out []api.Request
	for i := range many {
		out = append(out, api.Request{No: 1001 + i, Kind: api.Tick})
	}
	return out
}

func wantCheck(t *testing.T, r api.Rules, o api.Office, e api.Errno) {
	t.Helper()
	if err := office.Check(r, o); err != e {
		t.Errorf("Check(%v, %v): %d, and must be %d", r, shown(o), err, e)
	}
}

func TestT1Rules(t *testing.T) {
	for i, change := range []func(r *api.Rules){
		func(r *api.Rules) {},
		func(r *api.Rules) { r.Fares = api.Fares{{0}} },
		func(r *api.Rules) { r.Fares = api.Fares{{1000, 1000}, {1000}} },
		func(r *api.Rules) { r.Fares = api.Fares{{100, 900, 3}, {5, 1000}, {1}} },
		func(r *api.Rules) { r.Fares = wide() },
		func(r *api.Rules) { r.Offers = r.Offers[:1] },
		func(r *api.Rules) {
			r.Offers = slices.Repeat([]api.Offer{{Days: api.MaxSpan, Price: api.MaxPrice}}, api.MaxOffers)
		},
		func(r *api.Rules) { r.Classes = nil },
		func(r *api.Rules) { r.Classes = make([]api.Class, api.MaxClasses) },
		func(r *api.Rules) { r.Classes = []api.Class{{To: api.MaxAge - 1, Percent: 100}} },
		func(r *api.Rules) { r.Classes = []api.Class{{From: api.MaxAge - 1, To: api.MaxAge - 1}} },
		func(r *api.Rules) { r.RefundFee, r.ReplaceFee = 0, api.MaxFee },
		func(r *api.Rules) { r.RefundFee, r.ReplaceFee = api.MaxFee, 0 },
	} {
		r := rules()
		change(&r)
		if err := office.Check(r, busy()); err != api.OK {
			t.Errorf("Check of rules %d: %d", i, err)
		}
	}
}

func TestT1Office(t *testing.T) {
	wantCheck(t, rules(), api.Office{Day: 1}, api.OK)
	wantCheck(t, rules(), api.Office{Day: api.LastDay}, api.OK)
	wantCheck(t, rules(), busy(), api.OK)
	for i, change := range []func(o *api.Office){
		func(o *api.Office) { o.Ring = nil },
		func(o *api.Office) { o.Ring = []api.Epoch{{No: 1}, {No: 255}} },
		func(o *api.Office) { o.Sales, o.Passes = nil, passesOf(api.MaxPasses) },
		func(o *api.Office) { o.Sales = nil },
		func(o *api.Office) { o.Sales[0], o.Sales[1] = o.Sales[1], o.Sales[0] },
		// A sale's days are no more than a set: they may be none of the pass, nor days that there are.
		func(o *api.Office) { o.Sales[0].Days = api.Span{From: -api.MaxDay, To: api.MaxDay} },
		func(o *api.Office) { o.Sales[0].Paid, o.Sales[1].Paid = 0, api.MaxPence },
		func(o *api.Office) { o.Done = nil },
		func(o *api.Office) { o.Done = requests(api.MaxDone) },
		// Of what was done just the numbers are asked, and whether there is one twice.
		func(o *api.Office) { o.Done = []api.Request{{}, {No: -1, Kind: 99}, {No: math.MinInt}} },
		func(o *api.Office) { o.Ledger = nil },
		func(o *api.Office) { o.Ledger = append(o.Ledger, posting(9, api.Revenue, 6000, api.Cash, -6000)) },
		func(o *api.Office) { o.Ledger = []api.Posting{posting(9, api.Revenue, 6000, api.Fees, -6000)} },
		// Cash may be below 0 in between.
		func(o *api.Office) {
			o.Ledger = []api.Posting{posting(8, api.Revenue, 6000, api.Cash, -6000), posting(9, api.Revenue, -6000, api.Cash, 6000)}
		},
	} {
		o := busy()
		change(&o)
		if err := office.Check(rules(), o); err != api.OK {
			t.Errorf("Check of office %d: %d", i, err)
		}
	}
}

// TestT1Wrong: each fault, and of two the one that the promise names first, which Price and Do tell too.
func TestT1Wrong(t *testing.T) {
	all := append(ruleFaults(), officeFaults()...)
	for i, first := range all {
		for k, f := range first {
			r, o := rules(), busy()
			f.change(&r, &o)
			if err := office.Check(r, o); err != f.e {
				t.Errorf("Check with the fault %d of %d: %d, and must be %d", k, i, err, f.e)
			}
			if out, paid, err := office.Do(r, o, tick(50)); err != f.e || paid != 0 || !isNothing(out) {
				t.Errorf("Do with the fault %d of %d: %v %d %d, and must be %d", k, i, shown(out), paid, err, f.e)
			}
			if i < len(ruleFaults()) {
				wantPrice(t, r, 690000, 0, 1, 700000, 7, 0, f.e)
				wantPrice(t, r, 0, 1, 0, 0, -1, 0, f.e)
			}
			for l, later := range all[i+1:] {
				for m, g := range later {
					r, o := rules(), busy()
					// The greater fault may take the place of the smaller one, so each is made first.
					g.change(&r, &o)
					f.change(&r, &o)
					was := shown(o)
					if err := office.Check(r, o); err != f.e {
						t.Errorf("Check with the faults %d of %d and %d of %d: %d, and must be %d", k, i, m, i+1+l, err, f.e)
					}
					if shown(o) != was {
						t.Fatalf("Check changed %s", was)
					}
				}
			}
		}
	}
}

// TestT1EveryPlace: a pass, a sale and a request are asked wherever they stand.
func TestT1EveryPlace(t *testing.T) {
	for i := range api.MaxPasses {
		for k := range api.MaxPasses {
			o := api.Office{Day: 700000, Passes: passesOf(api.MaxPasses)}
			o.Passes[i].Id = o.Passes[k].Id
			wantCheck(t, rules(), o, choose(i == k, api.OK, api.ErrTwice))
			o = api.Office{Day: 700000, Passes: passesOf(api.MaxPasses)}
			for _, p := range o.Passes {
				o.Sales = append(o.Sales, api.Sale{Pass: p.Id, Days: api.Span{From: 1, To: 2}})
			}
			o.Sales[i].Pass = o.Sales[k].Pass
			wantCheck(t, rules(), o, choose(i == k, api.OK, api.ErrTwice))
			o.Sales[i].Pass = 5
			wantCheck(t, rules(), o, api.ErrNone)
		}
		o := api.Office{Day: 700000, Passes: passesOf(api.MaxPasses)}
		o.Passes[i].Serial = 0
		wantCheck(t, rules(), o, api.ErrRange)
	}
	for i := range api.MaxDone {
		for k := range api.MaxDone {
			o := api.Office{Day: 700000, Done: requests(api.MaxDone)}
			o.Done[i].No = o.Done[k].No
			wantCheck(t, rules(), o, choose(i == k, api.OK, api.ErrTwice))
		}
	}
	for a, row := range wide() {
		for k := range row {
			r := rules()
			r.Fares = wide()
			r.Fares[a][k] = 1001
			wantCheck(t, r, busy(), api.ErrRange)
		}
	}
	for i := range api.MaxClasses {
		r := rules()
		r.Classes = make([]api.Class, api.MaxClasses)
		r.Classes[i].Percent = 101
		wantCheck(t, r, busy(), api.ErrRange)
	}
}
