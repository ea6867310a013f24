package office_test

import (
	"fmt"
	"math"
	"math/rand"
	"slices"
	"testing"

	"swinggate/api"
	"swinggate/ledger"
	"swinggate/office"
	"swinggate/pass"
	"swinggate/ring"
)

func buy(no, id int, t api.Term) api.Request {
	return api.Request{No: no, Kind: api.Buy, Pass: id, Born: 690000, A: 0, B: 1, Term: t}
}

func renew(no, id int, t api.Term) api.Request {
	return api.Request{No: no, Kind: api.Renew, Pass: id, Term: t}
}

func of(no, kind, id int) api.Request { return api.Request{No: no, Kind: kind, Pass: id} }

// wantDo: what is answered is the office that was, with these changes; the request is put to what was done.
func wantDo(t *testing.T, r api.Rules, o api.Office, q api.Request, paid int, change func(o *api.Office)) api.Office {
	t.Helper()
	want := deep(o)
	change(&want)
	want.Done = append(want.Done, q)
	got, p, err := office.Do(r, o, q)
	if shown(got) != shown(want) || p != paid || err != api.OK {
		t.Errorf("Do(%v): %v %d %d, and must be %v %d", q, shown(got), p, err, shown(want), paid)
	}
	return want
}

func wantDoErr(t *testing.T, r api.Rules, o api.Office, q api.Request, e api.Errno) {
	t.Helper()
	was := shown(o)
	if got, paid, err := office.Do(r, o, q); !isNothing(got) || paid != 0 || err != e || shown(o) != was {
		t.Errorf("Do(%v): %v %d %d, and must be %d; %s", q, shown(got), paid, err, e, shown(o))
	}
}

// days of the pass at a place, From and To by turns.
func days(o *api.Office, i int, numbers ...int) { o.Passes[i].Days = set(numbers...) }

// sold: a posting at the end, of what is paid for days.
func sold(o *api.Office, no, paid int) {
	o.Ledger = append(o.Ledger, posting(no, api.Cash, paid, api.Revenue, -paid))
}

// TestExample: the document's own.
func TestExample(t *testing.T) {
	r := rules()
	o := wantDo(t, r, api.Office{Day: 700000}, buy(1, 1, week), 3000, func(o *api.Office) {
		o.Passes = []api.Pass{{Id: 1, Born: 690000, B: 1, Serial: 1, Days: set(700000, 700007)}}
		o.Sales = []api.Sale{{Pass: 1, Paid: 3000, Days: api.Span{From: 700000, To: 700007}}}
		sold(o, 1, 3000)
	})
	o = wantDo(t, r, o, renew(2, 1, week), 3000, func(o *api.Office) {
		days(o, 0, 700000, 700014)
		o.Sales[0].Days = api.Span{From: 700007, To: 700014}
		sold(o, 2, 3000)
	})
	wantDo(t, r, o, of(3, api.Refund, 1), -2500, func(o *api.Office) {
		days(o, 0, 700000, 700007)
		o.Sales = nil
		sold(o, 3, -2500)
	})
}

// TestT3Again: what was done is not done again, and another request of its number never.
func TestT3Again(t *testing.T) {
	for _, q := range busy().Done {
		out, paid, err := office.Do(rules(), busy(), q)
		if shown(out) != shown(busy()) || paid != 0 || err != api.OK {
			t.Errorf("Do(%v) again: %v %d %d", q, shown(out), paid, err)
		}
		for i, other := range each(q) {
			if i > 0 && other != q {
				wantDoErr(t, rules(), busy(), other, api.ErrTwice)
			}
		}
	}
	// However many were done, and whatever number it has.
	o := busy()
	o.Done = append(requests(api.MaxDone-2), api.Request{No: 0, Kind: 77, Epoch: 5}, api.Request{No: math.MinInt})
	for _, q := range o.Done {
		out, paid, err := office.Do(rules(), o, q)
		if shown(out) != shown(o) || paid != 0 || err != api.OK {
			t.Errorf("Do(%v) again: %v %d %d", q, shown(out), paid, err)
		}
		q.Born++
		wantDoErr(t, rules(), o, q, api.ErrTwice)
	}
}

// each: a request with one more in one of its fields each, the number first.
func each(q api.Request) []api.Request {
	out := slices.Repeat([]api.Request{q}, 11)
	for i := range out {
		p := &out[i]
		*[]*int{&p.No, &p.Kind, &p.Pass, &p.Born, &p.A, &p.B, &p.Epoch, &p.Term.Unit, &p.Term.N, new(int), new(int)}[i] += 1
	}
	out[9].K.A++
	out[10].K.B++
	return out
}

func TestT3Number(t *testing.T) {
	for _, no := range []int{0, -1, math.MinInt} {
		for _, q := range append(oneEach(), api.Request{Kind: 99}, api.Request{}) {
			q.No = no
			wantDoErr(t, rules(), busy(), q, api.ErrRange)
		}
	}
	o := busy()
	o.Ledger = append(o.Ledger, posting(50, api.Cash, 5, api.Revenue, -5))
	for _, q := range append(oneEach(), api.Request{No: 50, Kind: 99}) {
		wantDoErr(t, rules(), o, q, api.ErrTwice)
	}
	for _, no := range []int{1, 10, 16, math.MaxInt} {
		wantDo(t, rules(), busy(), tick(no), 0, func(o *api.Office) { o.Day++ })
	}
}

func TestT3Kind(t *testing.T) {
	for _, kind := range append([]int{0, -1, 8, 9}, extremes...) {
		for _, q := range oneEach() {
			q.Kind = kind
			wantDoErr(t, rules(), busy(), q, api.ErrKind)
		}
	}
}

// TestT3Form: what a kind does not name is not there. The form tells ahead of what is wrong with what it names.
func TestT3Form(t *testing.T) {
	pass, born, a, b, epoch, unit, n, keyA, keyB := 2, 3, 4, 5, 6, 7, 8, 9, 10
	named := map[int][]int{
		api.Buy: {pass, born, a, b, unit, n}, api.Renew: {pass, unit, n}, api.Refund: {pass}, api.Replace: {pass}, api.NewKey: {keyA, keyB}, api.OldKey: {epoch}, api.Tick: {},
	}
	full := busy()
	full.Done = requests(api.MaxDone)
	late := busy()
	late.Day = api.LastDay
	for kind, fields := range named {
		for i, q := range each(api.Request{No: 50, Kind: kind}) {
			if i < pass || slices.Contains(fields, i) {
				continue
			}
			for _, o := range []api.Office{busy(), full, late} {
				wantDoErr(t, rules(), o, q, api.ErrForm)
			}
		}
		for _, q := range oneEach() {
			if q.Kind != kind {
				continue
			}
			for i, more := range each(q) {
				switch {
				case i < pass:
				case !slices.Contains(fields, i):
					wantDoErr(t, rules(), busy(), more, api.ErrForm)
				default:
					if _, _, err := office.Do(rules(), busy(), more); err == api.ErrForm {
						t.Errorf("Do(%v): %d, and its fields are all named", more, err)
					}
				}
			}
		}
	}
}

func TestT3Many(t *testing.T) {
	o := busy()
	o.Done = requests(api.MaxDone)
	for _, q := range append(oneEach(), renew(50, 77, api.Term{})) {
		wantDoErr(t, rules(), o, q, api.ErrMany)
	}
	o.Done = requests(api.MaxDone - 1)
	wantDo(t, rules(), o, tick(50), 0, func(o *api.Office) { o.Day++ })
}

func TestT3Buy(t *testing.T) {
	r := rules()
	for _, x := range []struct {
		q          api.Request
		days, paid int
	}{
		{buy(50, 9, day), 1, 750}, {buy(50, 9, week), 7, 3000}, {buy(50, 9, api.Term{Unit: api.Days, N: 9}), 9, 4500}, {buy(50, api.MaxPass, api.Term{Unit: api.Weeks, N: 2}), 14, 6000},
		{api.Request{No: 50, Kind: api.Buy, Pass: 9, Born: 690000, A: 1, B: 1, Term: week}, 7, 2000}, {api.Request{No: 50, Kind: api.Buy, Pass: 9, Born: 695000, A: 0, B: 1, Term: week}, 7, 1500},
		{api.Request{No: 50, Kind: api.Buy, Pass: 9, Born: 1, A: 0, B: 0, Term: week}, 7, 2000},
	} {
		wantDo(t, r, busy(), x.q, x.paid, func(o *api.Office) {
			span := api.Span{From: o.Day, To: o.Day + x.days}
			o.Passes = append(o.Passes, api.Pass{Id: x.q.Pass, Born: x.q.Born, A: x.q.A, B: x.q.B, Serial: 1, Days: []api.Span{span}})
			o.Sales = append(o.Sales, api.Sale{Pass: x.q.Pass, Paid: x.paid, Days: span})
			sold(o, 50, x.paid)
		})
	}
	// A month, as long as it is, and a year.
	o := busy()
	o.Day = turned(1, 2023) + 30
	for unit, many := range map[int]int{api.Months: 29, api.Years: 366} {
		paid := priceOf(r, 690000, 0, 1, o.Day, many)
		wantDo(t, r, o, buy(50, 9, api.Term{Unit: unit, N: 1}), paid, func(o *api.Office) {
			span := api.Span{From: o.Day, To: o.Day + many}
			o.Passes = append(o.Passes, api.Pass{Id: 9, Born: 690000, B: 1, Serial: 1, Days: []api.Span{span}})
			o.Sales = append(o.Sales, api.Sale{Pass: 9, Paid: paid, Days: span})
			sold(o, 50, paid)
		})
	}
}

// TestT3BuyWrong: a pass of that Id tells first, then how many there are, then the pass, then the price, then what is posted.
func TestT3BuyWrong(t *testing.T) {
	r := rules()
	crowd := busy()
	crowd.Sales, crowd.Passes = nil, passesOf(api.MaxPasses)
	bad := []api.Request{buy(50, 9, api.Term{}), buy(50, 9, api.Term{Unit: api.Days}), buy(50, 9, api.Term{Unit: api.Years, N: 2}), {No: 50, Kind: api.Buy, Pass: 9, Term: week}}
	for _, q := range append(bad, buy(50, 9, week)) {
		wantDoErr(t, r, crowd, q, api.ErrMany)
		for _, id := range []int{1, 2, 3} {
			q.Pass = id
			wantDoErr(t, r, busy(), q, api.ErrTwice)
		}
		for i := range crowd.Passes {
			q.Pass = 101 + i
			wantDoErr(t, r, crowd, q, api.ErrTwice)
		}
	}
	crowd.Passes = crowd.Passes[:api.MaxPasses-1]
	wantDo(t, r, crowd, buy(50, 9, week), 3000, func(o *api.Office) {
		o.Passes = append(o.Passes, api.Pass{Id: 9, Born: 690000, B: 1, Serial: 1, Days: set(o.Day, o.Day+7)})
		o.Sales = []api.Sale{{Pass: 9, Paid: 3000, Days: set(o.Day, o.Day+7)[0]}}
		sold(o, 50, 3000)
	})
	for i, e := range []api.Errno{api.ErrKind, api.ErrRange, api.ErrRange, api.ErrRange} {
		wantDoErr(t, r, busy(), bad[i], e)
	}
	late := busy()
	late.Day = api.LastDay - 6
	wantDoErr(t, r, late, buy(50, 9, week), api.ErrOver)
	wantDoErr(t, r, late, buy(50, 0, week), api.ErrOver)
	for _, id := range append([]int{0, -1, api.MaxPass + 1}, extremes...) {
		wantDoErr(t, r, busy(), buy(50, id, week), api.ErrRange)
	}
	q := buy(50, 9, week)
	q.B = 2
	wantDoErr(t, r, busy(), q, api.ErrRange)
	q.A, q.B = 1, 0
	wantDoErr(t, r, busy(), q, api.ErrRange)
	// Too late to turn 18; and the ledger is full.
	q = buy(50, 9, week)
	q.Born = api.LastDay
	wantDoErr(t, r, busy(), q, api.ErrOver)
	wantDoErr(t, r, fullLedger(), q, api.ErrOver)
	wantDoErr(t, r, fullLedger(), buy(50, 9, api.Term{}), api.ErrKind)
}

func TestT3Renew(t *testing.T) {
	r := rules()
	// In time, without a gap; its sale stands in the place of the old one, wherever that is.
	wantDo(t, r, busy(), renew(50, 1, week), 3000, func(o *api.Office) {
		days(o, 0, 700000, 700014)
		o.Sales[1] = api.Sale{Pass: 1, Paid: 3000, Days: api.Span{From: 700007, To: 700014}}
		sold(o, 50, 3000)
	})
	// Of a class, and of one zone; some days are of older sales.
	wantDo(t, r, busy(), renew(50, 2, api.Term{Unit: api.Days, N: 2}), 500, func(o *api.Office) {
		days(o, 1, 699000, 699007, 700000, 700016)
		o.Sales[0] = api.Sale{Pass: 2, Paid: 500, Days: api.Span{From: 700014, To: 700016}}
		sold(o, 50, 500)
	})
	// Late, from today on; there was no sale of it.
	wantDo(t, r, busy(), renew(50, 3, day), 500, func(o *api.Office) {
		days(o, 2, 700000, 700001, 700003, 700004)
		o.Sales = append(o.Sales, api.Sale{Pass: 3, Paid: 500, Days: api.Span{From: 700003, To: 700004}})
		sold(o, 50, 500)
	})
	none := busy()
	days(&none, 2)
	wantDo(t, r, none, renew(50, 3, week), 2000, func(o *api.Office) {
		days(o, 2, 700003, 700010)
		o.Sales = append(o.Sales, api.Sale{Pass: 3, Paid: 2000, Days: api.Span{From: 700003, To: 700010}})
		sold(o, 50, 2000)
	})
	// It is bought today, whenever its days begin: at the price of somebody who is 17 today.
	young := busy()
	young.Passes[0].Born = 700004 - (turned(690000, 18) - 690000)
	if turned(young.Passes[0].Born, 18) <= young.Day || turned(young.Passes[0].Born, 18) > 700007 {
		t.Fatalf("18 is turned on day %d", turned(young.Passes[0].Born, 18))
	}
	wantDo(t, r, young, renew(50, 1, week), 1500, func(o *api.Office) {
		days(o, 0, 700000, 700014)
		o.Sales[1] = api.Sale{Pass: 1, Paid: 1500, Days: api.Span{From: 700007, To: 700014}}
		sold(o, 50, 1500)
	})
}

// TestT3RenewWrong: whether there is such a pass tells first, then the term, then the price, then what is posted.
func TestT3RenewWrong(t *testing.T) {
	r := rules()
	for _, id := range append([]int{0, 4, -1}, extremes...) {
		wantDoErr(t, r, busy(), renew(50, id, week), api.ErrNone)
		wantDoErr(t, r, busy(), renew(50, id, api.Term{}), api.ErrNone)
	}
	wantDoErr(t, r, busy(), renew(50, 1, api.Term{}), api.ErrKind)
	wantDoErr(t, r, busy(), renew(50, 1, api.Term{Unit: api.Days, N: api.MaxTerm + 1}), api.ErrRange)
	// More days than can be priced.
	wantDoErr(t, r, busy(), renew(50, 1, api.Term{Unit: api.Years, N: 2}), api.ErrRange)
	late := busy()
	days(&late, 0, 700000, api.LastDay-6)
	wantDoErr(t, r, late, renew(50, 1, week), api.ErrOver)
	wantDoErr(t, r, fullLedger(), renew(50, 1, api.Term{Unit: api.Years, N: 2}), api.ErrRange)
	spans := busy()
	spans.Passes[0].Days = nil
	for i := range api.MaxSpans {
		spans.Passes[0].Days = append(spans.Passes[0].Days, api.Span{From: 1 + 2*i, To: 2 + 2*i})
	}
	wantDoErr(t, r, spans, renew(50, 1, week), api.ErrMany)
	// Zones that the rules have not, and somebody who is too young to turn 18.
	wide := busy()
	wide.Passes[0].B = 2
	wantDoErr(t, r, wide, renew(50, 1, week), api.ErrRange)
	wide.Passes[0].B, wide.Passes[0].Born = 1, api.LastDay
	wantDoErr(t, r, wide, renew(50, 1, week), api.ErrOver)
}

func TestT3Refund(t *testing.T) {
	r := rules()
	// Three days were used, which would have cost 2250.
	wantDo(t, r, busy(), of(50, api.Refund, 1), -250, func(o *api.Office) {
		days(o, 0, 700000, 700003)
		o.Sales = o.Sales[:1]
		sold(o, 50, -250)
	})
	// None was used; the days of older sales stay.
	wantDo(t, r, busy(), of(50, api.Refund, 2), -500, func(o *api.Office) {
		days(o, 1, 699000, 699007, 700000, 700007)
		o.Sales = o.Sales[1:]
		sold(o, 50, -500)
	})
	for _, x := range []struct{ day, used int }{{699990, 0}, {700000, 0}, {700001, 1}, {700004, 4}, {700006, 6}, {700007, 7}, {700008, 7}, {700100, 7}, {api.LastDay, 7}} {
		o := busy()
		o.Day, o.Sales[1].Paid = x.day, 9000
		back := 9000 - priceOf(r, 690000, 0, 1, x.day, x.used) - 500
		wantDo(t, r, o, of(50, api.Refund, 1), -back, func(o *api.Office) {
			days(o, 0, 700000, min(max(x.day, 700000), 700007))
			if x.day <= 700000 {
				days(o, 0)
			}
			o.Sales = o.Sales[:1]
			sold(o, 50, -back)
		})
	}
	// By today's price: somebody who is no child any more.
	young := busy()
	young.Passes[0].Born = 700002 - (turned(690000, 18) - 690000)
	wantDo(t, r, young, of(50, api.Refund, 1), -250, func(o *api.Office) {
		days(o, 0, 700000, 700003)
		o.Sales = o.Sales[:1]
		sold(o, 50, -250)
	})
}

// TestT3RefundNothing: no less than nothing is given back, and then nothing is posted.
func TestT3RefundNothing(t *testing.T) {
	for paid, back := range map[int]int{0: 0, 500: 0, 2249: 0, 2250: 0, 2749: 0, 2750: 0, 2751: 1, 2752: 2, 6000: 3250} {
		o := busy()
		o.Sales[1].Paid = paid
		wantDo(t, rules(), o, of(50, api.Refund, 1), -back, func(o *api.Office) {
			days(o, 0, 700000, 700003)
			o.Sales = o.Sales[:1]
			if back > 0 {
				sold(o, 50, -back)
			}
		})
	}
	r := rules()
	r.RefundFee = 0
	wantDo(t, r, busy(), of(50, api.Refund, 1), -750, func(o *api.Office) {
		days(o, 0, 700000, 700003)
		o.Sales = o.Sales[:1]
		sold(o, 50, -750)
	})
}

// TestT3RefundAnySale: a sale's days may be none of the pass, and none that there are.
func TestT3RefundAnySale(t *testing.T) {
	for _, x := range []struct{ from, to, end int }{
		{700005, 700007, 700005}, {700006, 700300, 700006}, {700007, 700009, 700007}, {800000, 800001, 700007}, {api.LastDay - 1, api.LastDay, 700007}, {api.LastDay, api.LastDay + 1, 700007},
		{api.LastDay + 1, api.LastDay + 2, 700007}, {api.MaxDay - 1, api.MaxDay, 700007}, {api.LastDay, api.MaxDay, 700007},
	} {
		o := busy()
		o.Sales[1].Days = api.Span{From: x.from, To: x.to}
		wantDo(t, rules(), o, of(50, api.Refund, 1), -2500, func(o *api.Office) {
			days(o, 0, 700000, x.end)
			o.Sales = o.Sales[:1]
			sold(o, 50, -2500)
		})
	}
	// Days that would be cut at LastDay, if there were such.
	o := busy()
	days(&o, 0, 700000, api.LastDay)
	for _, from := range []int{api.LastDay - 1, api.LastDay, api.LastDay + 1} {
		o.Sales[1].Days = api.Span{From: from, To: from + 5}
		wantDo(t, rules(), o, of(50, api.Refund, 1), -2500, func(o *api.Office) {
			days(o, 0, 700000, min(from, api.LastDay))
			o.Sales = o.Sales[:1]
			sold(o, 50, -2500)
		})
	}
	// So many days were used, back to before there were any; a day more than that is not priced.
	for _, from := range []int{700003 - api.MaxSpan, 700002 - api.MaxSpan, 0, -api.MaxDay} {
		o := busy()
		o.Sales[1] = api.Sale{Pass: 1, Paid: api.MaxPence, Days: api.Span{From: from, To: api.MaxDay}}
		q := of(50, api.Refund, 1)
		if 700003-from > api.MaxSpan {
			wantDoErr(t, rules(), o, q, api.ErrRange)
			continue
		}
		back := api.MaxPence - priceOf(rules(), 690000, 0, 1, 700003, api.MaxSpan) - 500
		wantDo(t, rules(), o, q, -back, func(o *api.Office) {
			days(o, 0, 700000, 700003)
			o.Sales = o.Sales[:1]
			sold(o, 50, -back)
		})
	}
	o = busy()
	o.Day, o.Sales[1].Days = 1, api.Span{From: -5, To: 0}
	o.Sales[1].Paid = 5000
	wantDo(t, rules(), o, of(50, api.Refund, 1), -(5000 - 3000 - 500), func(o *api.Office) {
		days(o, 0)
		o.Sales = o.Sales[:1]
		sold(o, 50, -1500)
	})
}

// TestT3RefundWrong: the pass and its sale tell first, then the price, then what is posted.
func TestT3RefundWrong(t *testing.T) {
	for _, id := range append([]int{0, 3, 4, -1}, extremes...) {
		wantDoErr(t, rules(), busy(), of(50, api.Refund, id), api.ErrNone)
		wantDoErr(t, rules(), fullLedger(), of(50, api.Refund, id), api.ErrNone)
	}
	for _, o := range []api.Office{busy(), fullLedger()} {
		o.Passes[0].B = 2
		wantDoErr(t, rules(), o, of(50, api.Refund, 1), api.ErrRange)
		o.Passes[0].B, o.Passes[0].Born = 1, api.LastDay
		wantDoErr(t, rules(), o, of(50, api.Refund, 1), api.ErrOver)
	}
}

func TestT3Replace(t *testing.T) {
	for i, p := range busy().Passes {
		wantDo(t, rules(), busy(), of(50, api.Replace, p.Id), 300, func(o *api.Office) {
			o.Passes[i].Serial++
			o.Ledger = append(o.Ledger, posting(50, api.Cash, 300, api.Fees, -300))
		})
	}
	r := rules()
	r.ReplaceFee = 0
	wantDo(t, r, busy(), of(50, api.Replace, 2), 0, func(o *api.Office) { o.Passes[1].Serial++ })
	wantDo(t, r, fullLedger(), of(50, api.Replace, 2), 0, func(o *api.Office) { o.Passes[1].Serial++ })
	for _, id := range append([]int{0, 4, -1}, extremes...) {
		wantDoErr(t, rules(), busy(), of(50, api.Replace, id), api.ErrNone)
	}
	o := busy()
	o.Passes[1].Serial = api.MaxSerial
	wantDoErr(t, rules(), o, of(50, api.Replace, 2), api.ErrMany)
}

func TestT3Keys(t *testing.T) {
	k := api.Key{A: 8, B: math.MaxUint64}
	wantDo(t, rules(), busy(), api.Request{No: 50, Kind: api.NewKey, K: k}, 0, func(o *api.Office) { o.Ring = append(o.Ring, api.Epoch{No: 5, K: k}) })
	// A key of noughts alone is one too.
	wantDo(t, rules(), api.Office{Day: 1}, api.Request{No: 50, Kind: api.NewKey}, 0, func(o *api.Office) { o.Ring = []api.Epoch{{No: 1}} })
	for i, e := range busy().Ring {
		wantDo(t, rules(), busy(), api.Request{No: 50, Kind: api.OldKey, Epoch: e.No}, 0, func(o *api.Office) { o.Ring = slices.Delete(o.Ring, i, i+1) })
	}
	for _, no := range append([]int{0, 2, 5, -1, 256}, extremes...) {
		wantDoErr(t, rules(), busy(), api.Request{No: 50, Kind: api.OldKey, Epoch: no}, api.ErrNone)
	}
	o := busy()
	o.Ring[1].No = api.MaxNo
	wantDoErr(t, rules(), o, api.Request{No: 50, Kind: api.NewKey, K: k}, api.ErrMany)
	for len(o.Ring) < api.MaxRing {
		o.Ring = append([]api.Epoch{{No: o.Ring[0].No}}, o.Ring...)
		for i := range o.Ring {
			o.Ring[i].No = i + 1
		}
	}
	wantDoErr(t, rules(), o, api.Request{No: 50, Kind: api.NewKey, K: k}, api.ErrMany)
	wantDoErr(t, rules(), api.Office{Day: 1}, api.Request{No: 50, Kind: api.OldKey, Epoch: 1}, api.ErrNone)
}

func TestT3Tick(t *testing.T) {
	for _, day := range []int{1, 700003, api.LastDay - 1} {
		o := busy()
		o.Day = day
		wantDo(t, rules(), o, tick(50), 0, func(o *api.Office) { o.Day = day + 1 })
	}
	o := busy()
	o.Day = api.LastDay
	wantDoErr(t, rules(), o, tick(50), api.ErrOver)
}

// fullLedger: the busy office, with as many postings as there may be.
func fullLedger() api.Office {
	o := busy()
	for i := len(o.Ledger); i < api.MaxPostings; i++ {
		o.Ledger = append(o.Ledger, posting(2000+i, api.Cash, 5, api.Employer, -5))
	}
	return o
}

// TestT4Full: with a full ledger nothing can be posted; what posts nothing is done all the same.
func TestT4Full(t *testing.T) {
	for _, q := range oneEach() {
		switch q.Kind {
		case api.Buy, api.Renew, api.Refund, api.Replace:
			wantDoErr(t, rules(), fullLedger(), q, api.ErrMany)
		}
	}
	o := fullLedger()
	wantDo(t, rules(), o, tick(50), 0, func(o *api.Office) { o.Day++ })
	wantDo(t, rules(), o, api.Request{No: 50, Kind: api.OldKey, Epoch: 1}, 0, func(o *api.Office) { o.Ring = o.Ring[1:] })
	r := rules()
	r.Offers = []api.Offer{{Days: 1}}
	wantDo(t, r, o, buy(50, 9, week), 0, func(o *api.Office) {
		o.Passes = append(o.Passes, api.Pass{Id: 9, Born: 690000, B: 1, Serial: 1, Days: set(o.Day, o.Day+7)})
		o.Sales = append(o.Sales, api.Sale{Pass: 9, Days: set(o.Day, o.Day+7)[0]})
	})
	wantDo(t, r, o, renew(50, 1, week), 0, func(o *api.Office) {
		days(o, 0, 700000, 700014)
		o.Sales[1] = api.Sale{Pass: 1, Days: api.Span{From: 700007, To: 700014}}
	})
}

// drawnRequest of the kinds by which an office is moved on, some of which can't be done.
func drawnRequest(r *rand.Rand, no int, o api.Office, zones int) api.Request {
	id := 1 + r.Intn(5)
	x := api.Term{Unit: 1 + r.Intn(3), N: 1 + r.Intn(3)}
	switch r.Intn(10) {
	case 0, 1:
		a := r.Intn(zones)
		return api.Request{No: no, Kind: api.Buy, Pass: id, Born: o.Day - 1 - r.Intn(15000), A: a, B: a + r.Intn(zones-a), Term: x}
	case 2, 3:
		return renew(no, id, x)
	case 4:
		return of(no, api.Refund, id)
	case 5:
		return of(no, api.Replace, id)
	case 6:
		return api.Request{No: no, Kind: api.NewKey, K: api.Key{A: r.Uint64()}}
	case 7:
		return api.Request{No: no, Kind: api.OldKey, Epoch: 1 + r.Intn(5)}
	}
	return tick(no)
}

// after a request: the office that is to be answered, by the promise's words, from the calls of the chapters that it names.
func after(x api.Rules, o api.Office, q api.Request) (api.Office, int, api.Errno) {
	o = deep(o)
	i := slices.IndexFunc(o.Passes, func(p api.Pass) bool { return p.Id == q.Pass })
	k := slices.IndexFunc(o.Sales, func(s api.Sale) bool { return s.Pass == q.Pass })
	paid, from, e := 0, api.Revenue, api.OK
	switch q.Kind {
	case api.Buy:
		if i >= 0 {
			return api.Office{}, 0, api.ErrTwice
		}
		var p api.Pass
		if p, e = pass.New(q.Pass, q.Born, q.A, q.B, o.Day, q.Term); e == api.OK {
			paid = priceOf(x, p.Born, p.A, p.B, o.Day, p.Days[0].To-o.Day)
			o.Passes = append(o.Passes, p)
			o.Sales = append(o.Sales, api.Sale{Pass: p.Id, Paid: paid, Days: p.Days[0]})
		}
	case api.Renew:
		if i < 0 {
			return api.Office{}, 0, api.ErrNone
		}
		p := o.Passes[i]
		start := o.Day
		if len(p.Days) > 0 {
			start = max(start, p.Days[len(p.Days)-1].To)
		}
		more := 0
		if o.Passes[i], more, e = pass.Renew(p, o.Day, q.Term); e == api.OK {
			paid = priceOf(x, p.Born, p.A, p.B, o.Day, more)
			if k < 0 {
				k = len(o.Sales)
				o.Sales = append(o.Sales, api.Sale{})
			}
			o.Sales[k] = api.Sale{Pass: p.Id, Paid: paid, Days: api.Span{From: start, To: start + more}}
		}
	case api.Refund:
		if k < 0 {
			return api.Office{}, 0, api.ErrNone
		}
		used := 0
		for n := o.Sales[k].Days.From; n < o.Sales[k].Days.To; n++ {
			used += choose(n < o.Day, 1, 0)
		}
		p := o.Passes[i]
		paid = -max(0, o.Sales[k].Paid-x.RefundFee-priceOf(x, p.Born, p.A, p.B, o.Day, used))
		o.Passes[i], _, e = pass.Cut(p, max(o.Day, o.Sales[k].Days.From))
		o.Sales = slices.Delete(o.Sales, k, k+1)
	case api.Replace:
		if i < 0 {
			return api.Office{}, 0, api.ErrNone
		}
		o.Passes[i], e = pass.Replace(o.Passes[i])
		paid, from = x.ReplaceFee, api.Fees
	case api.NewKey:
		o.Ring, e = ring.Add(o.Ring, q.K)
	case api.OldKey:
		o.Ring, e = ring.Drop(o.Ring, q.Epoch)
	case api.Tick:
		o.Day++
	}
	if e != api.OK {
		return api.Office{}, 0, e
	}
	if paid != 0 {
		o.Ledger = append(o.Ledger, posting(q.No, api.Cash, paid, from, -paid))
	}
	o.Done = append(o.Done, q)
	return o, paid, api.OK
}

// balances of all accounts.
func balances(t *testing.T, l []api.Posting) [api.MaxAccount]int {
	t.Helper()
	var out [api.MaxAccount]int
	for i := range out {
		sum, err := ledger.Balance(l, i+1)
		if err != api.OK {
			t.Fatalf("Balance: %d", err)
		}
		out[i] = sum
	}
	return out
}

// TestT5Even: from any office that begins with nothing on, all accounts are 0 together, cash is what was paid, less what was given back, and nobody is given back more than was paid last.
func TestT5Even(t *testing.T) {
	r := rand.New(rand.NewSource(5))
	var count [api.Tick + 1]int
	for range 200 {
		x := drawnRules(r)
		o := api.Office{Day: 700000 + r.Intn(1000)}
		cash, last := 0, map[int]int{}
		for no := 1; no <= api.MaxDone; no++ {
			q := drawnRequest(r, no, o, len(x.Fares))
			want, wantPaid, e := after(x, o, q)
			out, paid, err := office.Do(x, o, q)
			if shown(out) != shown(want) || paid != wantPaid || err != e {
				t.Fatalf("Do(%v, %v, %v): %v %d %d, and must be %v %d %d", x, shown(o), q, shown(out), paid, err, shown(want), wantPaid, e)
			}
			if err != api.OK {
				continue
			}
			count[q.Kind]++
			if -paid > last[q.Pass] {
				t.Fatalf("Do(%v, %v, %v): %d, and %d were paid last", x, shown(o), q, paid, last[q.Pass])
			}
			if q.Kind != api.Replace {
				last[q.Pass] = max(0, paid)
			}
			cash += paid
			all := balances(t, out.Ledger)
			if all[api.Cash-1] != cash || all[0]+all[1]+all[2]+all[3]+all[4] != 0 || all[3] != 0 || all[4] != 0 {
				t.Fatalf("the accounts are %v, and cash is %d", all, cash)
			}
			wantCheck(t, x, out, api.OK)
			if again, paid, err := office.Do(x, out, q); shown(again) != shown(out) || paid != 0 || err != api.OK {
				t.Fatalf("Do(%v) again: %v %d %d", q, shown(again), paid, err)
			}
			o = out
		}
	}
	if slices.Min(count[1:]) < 100 {
		t.Errorf("so many of each kind were done: %v", count)
	}
}

// TestT5AnyCash: what was paid last is given back, whatever cash there is; who hands such an office in again is told.
func TestT5AnyCash(t *testing.T) {
	o := busy()
	o.Ledger = nil
	o = wantDo(t, rules(), o, of(50, api.Refund, 2), -500, func(o *api.Office) {
		days(o, 1, 699000, 699007, 700000, 700007)
		o.Sales = o.Sales[1:]
		sold(o, 50, -500)
	})
	wantDoErr(t, rules(), o, tick(51), api.ErrState)
}

// TestT4Nothing: with an error nothing changes, so that the same request can be done later.
func TestT4Nothing(t *testing.T) {
	o := busy()
	wantDoErr(t, rules(), o, of(50, api.Replace, 9), api.ErrNone)
	if shown(o) != fmt.Sprintf("%v", busy()) {
		t.Errorf("it is %s", shown(o))
	}
	o, _, _ = office.Do(rules(), o, buy(49, 9, week))
	wantDo(t, rules(), o, of(50, api.Replace, 9), 300, func(o *api.Office) {
		o.Passes[3].Serial++
		o.Ledger = append(o.Ledger, posting(50, api.Cash, 300, api.Fees, -300))
	})
}
