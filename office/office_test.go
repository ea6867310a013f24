package office_test

import (
	"fmt"
	"math"
	"math/rand"
	"strings"
	"sync"
	"testing"
	"time"

	"swinggate/api"
	"swinggate/office"
)

var (
	extremes = []int{math.MinInt, math.MinInt + 1, math.MinInt32, -api.MaxDay - 1, api.MaxDay + 1, math.MaxInt - 1, math.MaxInt}

	day  = api.Term{Unit: api.Days, N: 1}
	week = api.Term{Unit: api.Weeks, N: 1}
	year = api.Term{Unit: api.Years, N: 1}
)

// rules of two zones.
func rules() api.Rules {
	return api.Rules{
		Fares: api.Fares{{100, 150}, {100}}, Offers: []api.Offer{{Days: 1, Price: 500}, {Days: 7, Price: 2000}, {Days: 30, Price: 6000}},
		Classes: []api.Class{{From: 0, To: 17, Percent: 50}}, RefundFee: 500, ReplaceFee: 300,
	}
}

// wide fares, of as many zones as there may be.
func wide() api.Fares {
	out := make(api.Fares, api.MaxZones)
	for a := range out {
		for k := range api.MaxZones - a {
			out[a] = append(out[a], 100+10*k+a)
		}
	}
	return out
}

// set of days, From and To by turns.
func set(numbers ...int) []api.Span {
	var out []api.Span
	for i := 0; i+1 < len(numbers); i += 2 {
		out = append(out, api.Span{From: numbers[i], To: numbers[i+1]})
	}
	return out
}

// posting by its numbers, account and pence by turns.
func posting(id int, numbers ...int) api.Posting {
	out := api.Posting{Id: id}
	for i := 0; i+1 < len(numbers); i += 2 {
		out.Lines = append(out.Lines, api.Line{Account: numbers[i], Pence: numbers[i+1]})
	}
	return out
}

// busy: an office on day 700003, with three passes, of which two were sold, the second one renewed.
func busy() api.Office {
	return api.Office{
		Day:  700003,
		Ring: []api.Epoch{{No: 1, K: api.Key{A: 1, B: 2}}, {No: 4, K: api.Key{A: 3, B: 4}}},
		Passes: []api.Pass{
			{Id: 1, Born: 690000, A: 0, B: 1, Serial: 1, Days: set(700000, 700007)},
			{Id: 2, Born: 695000, A: 1, B: 1, Serial: 5, Days: set(699000, 699007, 700000, 700014)},
			{Id: 3, Born: 690000, A: 0, B: 0, Serial: 2, Days: set(700000, 700001)},
		},
		Sales:  []api.Sale{{Pass: 2, Paid: 1000, Days: api.Span{From: 700007, To: 700014}}, {Pass: 1, Paid: 3000, Days: api.Span{From: 700000, To: 700007}}},
		Ledger: []api.Posting{posting(11, api.Cash, 3000, api.Revenue, -3000), posting(12, api.Cash, 3000, api.Revenue, -3000)},
		Done: []api.Request{
			{No: 11, Kind: api.Buy, Pass: 1, Born: 690000, B: 1, Term: week}, {No: 12, Kind: api.Renew, Pass: 2, Term: week}, {No: 13, Kind: api.Tick},
			{No: 14, Kind: api.NewKey, K: api.Key{A: 3, B: 4}}, {No: 15, Kind: api.OldKey, Epoch: 3},
		},
	}
}

func tick(no int) api.Request { return api.Request{No: no, Kind: api.Tick} }

func choose[T any](is bool, yes, no T) T {
	if is {
		return yes
	}
	return no
}

// shown: all of an office.
func shown(o api.Office) string { return fmt.Sprintf("%v", o) }

func isNothing(o api.Office) bool { return shown(o) == shown(api.Office{}) }

// deep copy of an office, with spare room behind each list of it.
func deep(o api.Office) api.Office {
	o.Ring = roomy(o.Ring)
	o.Passes = roomy(o.Passes)
	for i, p := range o.Passes {
		o.Passes[i].Days = roomy(p.Days)
	}
	o.Sales = roomy(o.Sales)
	o.Ledger = roomy(o.Ledger)
	for i, p := range o.Ledger {
		o.Ledger[i].Lines = roomy(p.Lines)
	}
	o.Done = roomy(o.Done)
	return o
}

func roomy[T any](l []T) []T { return append(make([]T, 0, len(l)+3), l...) }

// wipe all memory of an office, the spare room too.
func wipe(o api.Office) {
	for _, p := range o.Passes {
		clear(p.Days[:cap(p.Days)])
	}
	for _, p := range o.Ledger {
		clear(p.Lines[:cap(p.Lines)])
	}
	clear(o.Ring[:cap(o.Ring)])
	clear(o.Passes[:cap(o.Passes)])
	clear(o.Sales[:cap(o.Sales)])
	clear(o.Ledger[:cap(o.Ledger)])
	clear(o.Done[:cap(o.Done)])
}

// spare: what stands in the spare room behind the lists of an office.
func spare(o api.Office) string {
	var out strings.Builder
	for _, p := range o.Passes {
		fmt.Fprint(&out, p.Days[:cap(p.Days)])
	}
	for _, p := range o.Ledger {
		fmt.Fprint(&out, p.Lines[:cap(p.Lines)])
	}
	fmt.Fprint(&out, o.Ring[:cap(o.Ring)], o.Passes[:cap(o.Passes)], o.Sales[:cap(o.Sales)], o.Ledger[:cap(o.Ledger)], o.Done[:cap(o.Done)])
	return out.String()
}

func wantPrice(t *testing.T, r api.Rules, born, a, b, day, days, want int, e api.Errno) {
	t.Helper()
	if got, err := office.Price(r, born, a, b, day, days); got != want || err != e {
		t.Errorf("Price(%v, %d, %d, %d, %d, %d): %d %d, and must be %d %d", r, born, a, b, day, days, got, err, want, e)
	}
}

// turned: the day on which an age is turned, by the library's calendar.
func turned(born, age int) int {
	first := time.Date(1, 1, 1, 0, 0, 0, 0, time.UTC)
	at := first.AddDate(0, 0, born-1)
	in := func(m, d int) int {
		return int((time.Date(at.Year()+age, time.Month(m), d, 0, 0, 0, 0, time.UTC).Unix()-first.Unix())/86400) + 1
	}
	return min(in(int(at.Month()), at.Day()), in(int(at.Month())+1, 0))
}

// nearest to num hundredths of pence, of two the greater one.
func nearest(pence, num int) int {
	return int(math.Floor(float64(pence)*float64(num)/100 + 0.5))
}

// bestOf offers that cover so many days, the last offer first.
func bestOf(l []api.Offer, days int) int {
	if days <= 0 {
		return 0
	}
	least := math.MaxInt
	for i := range l {
		o := l[len(l)-1-i]
		least = min(least, o.Price*((days+o.Days-1)/o.Days))
		for many := 1; many < (days+o.Days-1)/o.Days && i < len(l)-1; many++ {
			least = min(least, o.Price*many+bestOf(l[:len(l)-1-i], days-many*o.Days))
		}
	}
	return least
}

// priceOf days, by the promise's words.
func priceOf(r api.Rules, born, a, b, day, days int) int {
	off := 0
	for _, c := range r.Classes {
		if turned(born, c.From) <= day && day < turned(born, c.To+1) {
			off = max(off, c.Percent)
		}
	}
	return nearest(nearest(bestOf(r.Offers, days), r.Fares[a][b-a]), 100-off)
}

func TestT2Price(t *testing.T) {
	r := rules()
	for days, best := range map[int]int{0: 0, 1: 500, 3: 1500, 4: 2000, 7: 2000, 8: 2500, 9: 3000, 14: 4000, 15: 4500, 22: 6000, 30: 6000, 31: 6500, 400: 81500} {
		wantPrice(t, r, 690000, 0, 0, 700000, days, best, api.OK)
		wantPrice(t, r, 690000, 0, 1, 700000, days, best*3/2, api.OK)
		wantPrice(t, r, 690000, 1, 1, 700000, days, best, api.OK)
		wantPrice(t, r, 695000, 0, 0, 700000, days, best/2, api.OK)
		wantPrice(t, r, 695000, 0, 1, 700000, days, best*3/4, api.OK)
	}
	// On the day on which 18 is turned it is dearer, and not ahead of it; and cheaper from the birth on.
	day := turned(690000, 18)
	wantPrice(t, r, 690000, 0, 0, day-1, 7, 1000, api.OK)
	wantPrice(t, r, 690000, 0, 0, day, 7, 2000, api.OK)
	wantPrice(t, r, 690000, 0, 0, 690000, 7, 1000, api.OK)
	wantPrice(t, r, 690000, 0, 0, 689999, 7, 2000, api.OK)
	r.Classes = append(r.Classes, api.Class{From: 0, To: 20, Percent: 100}, api.Class{To: 30, Percent: 10})
	wantPrice(t, r, 690000, 0, 1, day-1, 7, 0, api.OK)
	r.Fares = api.Fares{{0, 1000}, {55}}
	r.Classes = nil
	wantPrice(t, r, 690000, 0, 0, day, 7, 0, api.OK)
	wantPrice(t, r, 690000, 0, 1, day, 7, 20000, api.OK)
	wantPrice(t, r, 690000, 1, 1, day, 7, 1100, api.OK)
	// The dearest price there is.
	r = api.Rules{Fares: api.Fares{{1000}}, Offers: []api.Offer{{Days: 1, Price: api.MaxPrice}}}
	wantPrice(t, r, 690000, 0, 0, 700000, api.MaxSpan, 4000000000, api.OK)
}

// TestT2Rounded: to the nearest penny, of two to the greater one, once for the zones, and once for the class.
func TestT2Rounded(t *testing.T) {
	for _, x := range []struct{ price, percent, off, want int }{
		{1, 50, 0, 1}, {1, 49, 0, 0}, {3, 50, 0, 2}, {5, 30, 0, 2}, {5, 29, 0, 1}, {5, 31, 0, 2}, {1, 100, 50, 1}, {1, 100, 51, 0}, {1, 100, 100, 0},
		// One after the other: 0.5 is 1, and half of that is 1 again; all at once it would be 0.
		{1, 50, 50, 1}, {1, 49, 10, 0}, {3, 50, 50, 1}, {5, 50, 50, 2}, {7, 150, 50, 6}, {1, 150, 25, 2}, {9, 50, 90, 1},
	} {
		r := api.Rules{Fares: api.Fares{{x.percent}}, Offers: []api.Offer{{Days: 1, Price: x.price}}, Classes: []api.Class{{From: 0, To: 99, Percent: x.off}}}
		wantPrice(t, r, 690000, 0, 0, 700000, 1, x.want, api.OK)
	}
}

// drawnRules of up to three zones.
func drawnRules(r *rand.Rand) api.Rules {
	out := api.Rules{Fares: make(api.Fares, 1+r.Intn(3)), RefundFee: r.Intn(50), ReplaceFee: r.Intn(3) * r.Intn(50)}
	for a := range out.Fares {
		for range len(out.Fares) - a {
			out.Fares[a] = append(out.Fares[a], choose(r.Intn(9) == 0, 0, r.Intn(300)))
		}
	}
	for range 1 + r.Intn(3) {
		out.Offers = append(out.Offers, api.Offer{Days: 1 + r.Intn(30), Price: r.Intn(1000)})
	}
	for range r.Intn(4) {
		from := r.Intn(40)
		out.Classes = append(out.Classes, api.Class{From: from, To: from + r.Intn(20), Percent: r.Intn(101)})
	}
	return out
}

func TestT2AnyPrice(t *testing.T) {
	r := rand.New(rand.NewSource(1))
	for range 20000 {
		x := drawnRules(r)
		a := r.Intn(len(x.Fares))
		b := a + r.Intn(len(x.Fares)-a)
		born := 680000 + r.Intn(20000)
		at, days := born-10+r.Intn(20000), r.Intn(70)
		wantPrice(t, x, born, a, b, at, days, priceOf(x, born, a, b, at, days), api.OK)
	}
}

// TestT2Wrong: the days tell ahead of the zones, and both ahead of the class. (What is wrong with rules is told in TestT1Wrong.)
func TestT2Wrong(t *testing.T) {
	r := rules()
	for _, days := range append([]int{-1, api.MaxSpan + 1}, extremes...) {
		wantPrice(t, r, 690000, 0, 1, 700000, days, 0, api.ErrRange)
		wantPrice(t, r, api.LastDay, 1, 0, 0, days, 0, api.ErrRange)
	}
	for _, n := range append([]int{-1, 2}, extremes...) {
		for _, born := range []int{690000, api.LastDay} {
			wantPrice(t, r, born, n, 1, 700000, 7, 0, api.ErrRange)
			wantPrice(t, r, born, 0, n, 700000, 7, 0, api.ErrRange)
			wantPrice(t, r, born, n, n, 700000, 7, 0, api.ErrRange)
			wantPrice(t, r, born, 1, 0, 700000, 7, 0, api.ErrRange)
			wantPrice(t, r, born, 1, 0, 700000, 0, 0, api.ErrRange)
		}
	}
	for _, n := range append([]int{0, -1, api.LastDay + 1}, extremes...) {
		wantPrice(t, r, 690000, 0, 1, n, 7, 0, api.ErrRange)
		wantPrice(t, r, n, 0, 1, 700000, 7, 0, api.ErrRange)
		wantPrice(t, r, n, 0, 1, 700000, 0, 0, api.ErrRange)
	}
	// Too late to turn 18.
	wantPrice(t, r, api.LastDay, 0, 1, 700000, 7, 0, api.ErrOver)
	wantPrice(t, r, api.LastDay, 0, 1, 0, 7, 0, api.ErrOver)
	r.Classes = nil
	wantPrice(t, r, api.LastDay, 0, 1, 700000, 7, 3000, api.OK)
}

// told: all answers.
func told(r api.Rules, o api.Office, q api.Request) string {
	p, e1 := office.Price(r, q.Born, q.A, q.B, o.Day, q.Epoch)
	out, paid, e2 := office.Do(r, o, q)
	return fmt.Sprint(office.Check(r, o), p, e1, shown(out), paid, e2)
}

// oneEach: a request of each kind that can be done in the busy office.
func oneEach() []api.Request {
	return []api.Request{
		{No: 50, Kind: api.Buy, Pass: 9, Born: 690000, A: 1, B: 1, Term: week}, {No: 50, Kind: api.Renew, Pass: 1, Term: week}, {No: 50, Kind: api.Renew, Pass: 3, Term: week},
		{No: 50, Kind: api.Refund, Pass: 1}, {No: 50, Kind: api.Refund, Pass: 2}, {No: 50, Kind: api.Replace, Pass: 2},
		{No: 50, Kind: api.NewKey, K: api.Key{A: 9}}, {No: 50, Kind: api.OldKey, Epoch: 1}, tick(50),
	}
}

// TestP1AnyNumbers: no call panics, whatever it is handed, and with an error there is nothing else.
func TestP1AnyNumbers(t *testing.T) {
	r := rand.New(rand.NewSource(2))
	about := func(n int) int {
		switch r.Intn(150) {
		case 0:
			return int(r.Uint64())
		case 1:
			return 0
		case 2:
			return n - 1
		case 3:
			return n + r.Intn(20)
		}
		return n
	}
	span := func(s *api.Span) { s.From, s.To = about(s.From), about(s.To) }
	var count [api.ErrSum + 1]int
	for range 20000 {
		x, o := rules(), busy()
		x.Fares[0][r.Intn(2)] = about(100)
		x.Offers[r.Intn(3)] = api.Offer{Days: about(4), Price: about(900)}
		x.Classes[0].Percent, x.RefundFee, x.ReplaceFee = about(50), about(100), about(0)
		o.Day = about(o.Day)
		for i := range o.Passes {
			o.Passes[i].Id, o.Passes[i].Serial = about(o.Passes[i].Id), about(o.Passes[i].Serial)
			span(&o.Passes[i].Days[0])
		}
		for i := range o.Sales {
			o.Sales[i].Pass, o.Sales[i].Paid = about(o.Sales[i].Pass), about(o.Sales[i].Paid)
			span(&o.Sales[i].Days)
		}
		o.Ring[1].No, o.Ledger[1].Id, o.Done[2].No = about(o.Ring[1].No), about(o.Ledger[1].Id), about(o.Done[2].No)
		q := oneEach()[r.Intn(9)]
		q.No, q.Kind, q.Pass, q.Epoch, q.Term.N, q.B = about(10+r.Intn(60)), about(q.Kind), about(q.Pass), about(q.Epoch), about(q.Term.N), about(q.B)
		out, paid, err := office.Do(x, o, q)
		if err != api.OK && (paid != 0 || !isNothing(out)) || err == api.OK && isNothing(out) {
			t.Errorf("Do(%v, %v, %v): %v %d %d", x, o, q, out, paid, err)
		}
		count[err]++
		if p, err := office.Price(x, q.Born, q.A, q.B, o.Day, about(7)); p != 0 && err != api.OK {
			t.Errorf("Price: %d %d", p, err)
		}
	}
	if count[api.OK] < 1000 {
		t.Errorf("just %d were done: %v", count[api.OK], count)
	}
}

// TestP2OnlyRead: rules, an office and the spare room behind their lists are as they were.
func TestP2OnlyRead(t *testing.T) {
	x, o := rules(), deep(busy())
	was, room, fares := shown(o), spare(o), fmt.Sprint(x)
	for _, q := range append(oneEach(), busy().Done...) {
		first := told(x, o, q)
		if shown(o) != was || spare(o) != room || fmt.Sprint(x) != fares {
			t.Fatalf("there is %s and %s, and was %s and %s", shown(o), spare(o), was, room)
		}
		if again := told(x, o, q); again != first {
			t.Errorf("%s, and it was %s", again, first)
		}
	}
}

// TestP2AnswersAreTheCallers: what is done to what came in is not seen in what came out, nor the other way round, nor from one list in another.
func TestP2AnswersAreTheCallers(t *testing.T) {
	for _, q := range append(oneEach(), busy().Done...) {
		o := deep(busy())
		one, _, err := office.Do(rules(), o, q)
		two, _, _ := office.Do(rules(), o, q)
		was := shown(one)
		if err != api.OK {
			t.Fatalf("Do(%v): %d", q, err)
		}
		wipe(o)
		if shown(one) != was || shown(two) != was {
			t.Errorf("%v: it is %v and %v, and was %v", q, shown(one), shown(two), was)
		}
		o = deep(busy())
		three, _, _ := office.Do(rules(), o, q)
		wipe(one)
		wipe(three)
		if shown(two) != was || shown(o) != shown(busy()) {
			t.Errorf("%v: there is %v and %v", q, shown(two), shown(o))
		}
		apart(t, two)
	}
}

// apart: no two lists of days, and none of lines, share memory, the spare room too.
func apart(t *testing.T, o api.Office) {
	t.Helper()
	for i, p := range o.Passes {
		was := shown(o)
		days := append([]api.Span{}, p.Days...)
		clear(p.Days[:cap(p.Days)])
		o.Passes[i].Days = days
		if shown(o) != was {
			t.Errorf("the days of pass %d are another list's too", p.Id)
		}
	}
	for i, p := range o.Ledger {
		was := shown(o)
		lines := append([]api.Line{}, p.Lines...)
		clear(p.Lines[:cap(p.Lines)])
		o.Ledger[i].Lines = lines
		if shown(o) != was {
			t.Errorf("the lines of posting %d are another list's too", p.Id)
		}
	}
}

// TestP3NothingIsKept: asked backward and by many at once, the answers are the same.
func TestP3NothingIsKept(t *testing.T) {
	r := rand.New(rand.NewSource(3))
	const count = 200
	asks := make([]func() string, count)
	first := make([]string, count)
	for i := range count {
		x, o, q := drawnRules(r), busy(), oneEach()[r.Intn(9)]
		asks[i] = func() string { return told(x, o, q) }
		first[i] = asks[i]()
	}
	var all sync.WaitGroup
	for range 4 {
		all.Go(func() {
			for i := count - 1; i >= 0; i-- {
				if again := asks[i](); again != first[i] {
					t.Errorf("%s, and it was %s", again, first[i])
				}
			}
		})
	}
	all.Wait()
}
