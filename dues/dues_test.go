package dues_test

import (
	"fmt"
	"math"
	"math/rand"
	"slices"
	"sync"
	"testing"
	"time"

	"swinggate/api"
	"swinggate/dues"
)

// farthest day of which work is asked.
const farthest = api.LastDay - 366

var (
	extremes = []int{math.MinInt, math.MinInt + 1, math.MinInt32, -1 << 41, 1 << 41, math.MaxInt32 << 12, math.MaxInt - 1, math.MaxInt}
	noDays   = append([]int{0, -1, api.LastDay + 1}, extremes...)
	noTotals = append([]int{-1, api.MaxPence + 1}, extremes...)
	noCounts = append([]int{0, -1, api.MaxShares + 1}, extremes...)

	day   = api.Term{Unit: api.Days, N: 1}
	week  = api.Term{Unit: api.Weeks, N: 1}
	month = api.Term{Unit: api.Months, N: 1}
	year  = api.Term{Unit: api.Years, N: 1}

	noUnits  = []api.Term{{}, {Unit: 5, N: 1}, {Unit: -1, N: 1}, {N: 1}, {Unit: math.MaxInt, N: 1}, {Unit: math.MinInt, N: -1}}
	noLength = []api.Term{{Unit: api.Days}, {Unit: api.Years, N: api.MaxTerm + 1}, {Unit: api.Weeks, N: -1}, {Unit: api.Months, N: math.MaxInt}}

	// plain: every day is one of work; weekend: two of seven are not; bank: and some holidays.
	plain   = api.Calendar{}
	weekend = api.Calendar{Rest: [7]bool{5: true, 6: true}}
	bank    = api.Calendar{Rest: [7]bool{5: true, 6: true}, Rules: []api.Rule{{Kind: api.Fixed, M: 1, D: 1}, {Kind: api.Fixed, M: 12, D: 25}, {Kind: api.Fixed, M: 12, D: 26}, {Kind: api.Nth, M: 5, D: 1, W: 1}, {Kind: api.Moving, D: -2}, {Kind: api.Moving, D: 1}}}
	allRest = api.Calendar{Rest: [7]bool{true, true, true, true, true, true, true}}
)

// number and moment of a day go by the library's calendar, so that they lean on no package of the project.
func number(y, m, d int) int {
	at := time.Date(y, time.Month(m), d, 0, 0, 0, 0, time.UTC)
	return int((at.Unix()-moment(1).Unix())/86400) + 1
}

func moment(n int) time.Time { return time.Date(1, 1, n, 0, 0, 0, 0, time.UTC) }

// begin of the kth term by the library's calendar, however late it is.
func begin(start int, t api.Term, k int) int {
	many := k * t.N
	switch t.Unit {
	case api.Days:
		return start + many
	case api.Weeks:
		return start + 7*many
	case api.Years:
		many *= 12
	}
	at := moment(start)
	m := int(at.Month()) + many
	return min(number(at.Year(), m, at.Day()), number(at.Year(), m+1, 0))
}

// isFree: a day of rest, or one of the Fixed holidays of a calendar, each put off while it falls on a day of rest.
func isFree(c api.Calendar, n int) bool {
	isRest := func(n int) bool { return c.Rest[(int(moment(n).Weekday())+6)%7] }
	free := isRest(n)
	for _, r := range c.Rules {
		for y := moment(n).Year() - 1; y <= moment(n).Year(); y++ {
			holiday := number(y, r.M, r.D)
			for isRest(holiday) {
				holiday++
			}
			free = free || y > 0 && holiday == n
		}
	}
	return free
}

// drawn calendar, of Fixed holidays alone.
func drawn(r *rand.Rand) api.Calendar {
	var c api.Calendar
	for i := range c.Rest {
		c.Rest[i] = r.Intn(3) == 0
	}
	c.Rest[r.Intn(7)] = false
	for range r.Intn(api.MaxRules + 1) {
		// Several in a row, and about the year's end, are frequent.
		at := moment(number(2001, 12, 20+r.Intn(20)))
		if r.Intn(2) == 0 {
			at = moment(number(2001, 1, 1+r.Intn(365)))
		}
		c.Rules = append(c.Rules, api.Rule{Kind: api.Fixed, M: int(at.Month()), D: at.Day()})
	}
	return c
}

func drawnTerm(r *rand.Rand) api.Term {
	t := api.Term{Unit: 1 + r.Intn(4), N: 1 + r.Intn(api.MaxTerm)}
	if r.Intn(2) == 0 {
		t.N = 1 + r.Intn(4)
	}
	return t
}

// planned by hand, day by day; of what runs over it tells the error.
func planned(c api.Calendar, start int, t api.Term, total, many int) ([]api.Due, api.Errno) {
	var out []api.Due
	left := total
	for k := range many {
		n := begin(start, t, k)
		if n > api.LastDay {
			return nil, api.ErrOver
		}
		for n <= farthest && isFree(c, n) {
			n++
		}
		if n > farthest {
			return nil, api.ErrRange
		}
		// Of what is left each takes what is due to it, if all that are left are alike, upward.
		part := (left + many - k - 1) / (many - k)
		out = append(out, api.Due{Day: n, Pence: part})
		left -= part
	}
	return out, api.OK
}

// due pence on days, day and pence by turns.
func list(numbers ...int) []api.Due {
	var out []api.Due
	for i := 0; i+1 < len(numbers); i += 2 {
		out = append(out, api.Due{Day: numbers[i], Pence: numbers[i+1]})
	}
	return out
}

// wrongDues, each with what Check answers of them.
func wrongDues() map[api.Errno][][]api.Due {
	out := map[api.Errno][][]api.Due{
		// How many there are tells first.
		api.ErrMany: {make([]api.Due, api.MaxShares+1), slices.Repeat(list(5, 1), api.MaxShares+1), slices.Repeat(list(5, 1, 4, 1), api.MaxShares)},
		api.ErrRange: {
			make([]api.Due, 1), make([]api.Due, api.MaxShares), list(5, 1, 0, 1), list(5, -1), list(5, api.MaxPence+1), list(api.LastDay+1, 1),
			list(0, 0), list(-5, 5),
			// What may not stand there tells ahead of its order, and the first one of which something is wrong ahead of others.
			list(5, 1, 4, -1), list(5, 1, 4, api.MaxPence+1), list(5, 1, 0, -1), list(5, -1, 4, 1), list(5, 1, 6, -1, 4, 1), list(7, 1, -3, 1),
		},
		api.ErrState: {
			list(5, 1, 4, 1), list(5, 0, 4, 0), list(5, 1, 9, 1, 8, 1), list(api.LastDay, 1, 1, 1), list(5, 1, 9, 1, 5, 1), list(2, 9, 1, 9),
			list(5, 1, 4, 1, 0, 1), list(5, 1, 4, 1, 6, -1), list(5, 1, 7, 1, 6, 1, 0, 0), append(slices.Repeat(list(5, 1), api.MaxShares-1), list(4, 1)...),
		},
	}
	for _, n := range noDays {
		out[api.ErrRange] = append(out[api.ErrRange], list(n, 1), list(5, 1, n, 1), list(5, 1, n, -1, 4, 1))
		out[api.ErrState] = append(out[api.ErrState], list(5, 1, 4, 1, n, 1))
	}
	for _, n := range noTotals {
		out[api.ErrRange] = append(out[api.ErrRange], list(5, n), list(5, 1, 5, n), list(5, 1, 4, n), list(1, 0, 2, n, 1, 0))
	}
	return out
}

func rightDues() [][]api.Due {
	return [][]api.Due{
		nil, {}, list(5, 1), list(5, 0), list(1, 0), list(api.LastDay, api.MaxPence), list(5, 1, 5, 2, 9, 4), list(1, 7, api.LastDay, 9),
		slices.Repeat(list(5, api.MaxPence), api.MaxShares), list(5, 9, 6, 0, 6, 0, 6, 9),
	}
}

func wantPlan(t *testing.T, c api.Calendar, start int, x api.Term, total, many int, l []api.Due, e api.Errno) {
	t.Helper()
	if got, err := dues.Plan(c, start, x, total, many); !slices.Equal(got, l) || err != e {
		t.Errorf("Plan(%v, %d, %v, %d, %d): %v %d, and must be %v %d", c, start, x, total, many, got, err, l, e)
	}
}

func wantCheck(t *testing.T, l []api.Due, e api.Errno) {
	t.Helper()
	if err := dues.Check(l); err != e {
		t.Errorf("Check(%v): %d, and must be %d", l, err, e)
	}
}

func wantPaid(t *testing.T, l []api.Due, n, upTo, behind int, e api.Errno) {
	t.Helper()
	if got, more, err := dues.Paid(l, n); got != upTo || more != behind || err != e {
		t.Errorf("Paid(%v, %d): %d %d %d, and must be %d %d %d", l, n, got, more, err, upTo, behind, e)
	}
}

func TestQ1Plan(t *testing.T) {
	// Months from the 31st of January 2024, a Wednesday: the last day of March is Easter, and the one behind it a holiday.
	start := number(2024, 1, 31)
	wantPlan(t, bank, start, month, 1000, 3, list(start, 334, number(2024, 2, 29), 333, number(2024, 4, 2), 333), api.OK)
	// A day that is put off does not put off those behind it.
	wantPlan(t, bank, start, month, 11, 5, list(start, 3, number(2024, 2, 29), 2, number(2024, 4, 2), 2, number(2024, 4, 30), 2, number(2024, 5, 31), 2), api.OK)
	// From a Saturday, from New Year's Day, and into the next year.
	wantPlan(t, bank, number(2024, 6, 1), week, 7, 3, list(number(2024, 6, 3), 3, number(2024, 6, 10), 2, number(2024, 6, 17), 2), api.OK)
	wantPlan(t, bank, number(2024, 12, 25), week, 2, 2, list(number(2024, 12, 27), 1, number(2025, 1, 2), 1), api.OK)
	wantPlan(t, bank, number(2024, 12, 25), year, 1, 2, list(number(2024, 12, 27), 1, number(2025, 12, 29), 0), api.OK)
	// Several due on one day.
	wantPlan(t, weekend, number(2024, 6, 1), day, 9, 4, list(number(2024, 6, 3), 3, number(2024, 6, 3), 2, number(2024, 6, 3), 2, number(2024, 6, 4), 2), api.OK)
	wantPlan(t, plain, 1, day, 0, 2, list(1, 0, 2, 0), api.OK)
	wantPlan(t, plain, 700000, api.Term{Unit: api.Years, N: 2}, 5, 1, list(700000, 5), api.OK)
}

func TestQ1DrawnPlans(t *testing.T) {
	r := rand.New(rand.NewSource(1))
	for range 4000 {
		c, x := drawn(r), drawnTerm(r)
		start := 1 + r.Intn(api.LastDay)
		switch r.Intn(4) {
		case 0:
			start = number(1+r.Intn(9000), 1+r.Intn(12), 29+r.Intn(3))
		case 1:
			start = api.LastDay - r.Intn(2000)
		}
		total, many := r.Intn(api.MaxPence+1)>>r.Intn(41), 1+r.Intn(api.MaxShares)
		l, e := planned(c, start, x, total, many)
		wantPlan(t, c, start, x, total, many, l, e)
	}
}

func TestQ1Edges(t *testing.T) {
	for _, many := range []int{1, 2, 31, api.MaxShares} {
		for _, total := range []int{0, 1, many - 1, many, many + 1, 1000, api.MaxPence - 1, api.MaxPence} {
			for _, c := range []api.Calendar{plain, weekend} {
				l, e := planned(c, 700000, month, total, many)
				wantPlan(t, c, 700000, month, total, many, l, e)
				if e != api.OK || len(l) != many {
					t.Errorf("planned by hand: %v %d", l, e)
				}
			}
		}
	}
	wantPlan(t, plain, farthest, day, 5, 1, list(farthest, 5), api.OK)
	wantPlan(t, plain, farthest-1, day, 5, 2, list(farthest-1, 3, farthest, 2), api.OK)
	wantPlan(t, plain, 1, api.Term{Unit: api.Years, N: api.MaxTerm}, 2, 2, list(1, 1, number(121, 1, 1), 1), api.OK)
}

// TestQ1TotalTellsFirst: errors of Even, whatever else is wrong.
func TestQ1TotalTellsFirst(t *testing.T) {
	for _, c := range []api.Calendar{bank, allRest} {
		for _, start := range []int{700000, 0, api.LastDay} {
			for _, x := range []api.Term{month, {}, {Unit: api.Years, N: api.MaxTerm}} {
				for _, total := range noTotals {
					wantPlan(t, c, start, x, total, 3, nil, api.ErrRange)
					for _, many := range noCounts {
						wantPlan(t, c, start, x, total, many, nil, api.ErrRange)
					}
				}
				for _, many := range noCounts {
					wantPlan(t, c, start, x, 1000, many, nil, api.ErrRange)
				}
			}
		}
	}
}

// TestQ1Wrong: of each instalment the term tells, then the calendar.
func TestQ1Wrong(t *testing.T) {
	noRule := api.Calendar{Rules: []api.Rule{{}}}
	manyRules := api.Calendar{Rules: slices.Repeat([]api.Rule{{Kind: api.Moving}}, api.MaxRules+1)}
	for _, many := range []int{1, 3, api.MaxShares} {
		for c, e := range map[*api.Calendar]api.Errno{&bank: api.OK, &allRest: api.ErrForm, &noRule: api.ErrKind, &manyRules: api.ErrMany} {
			for _, start := range append([]int{1, 700000, api.LastDay}, noDays...) {
				for _, x := range noUnits {
					wantPlan(t, *c, start, x, 1000, many, nil, api.ErrKind)
				}
				for _, x := range noLength {
					wantPlan(t, *c, start, x, 1000, many, nil, api.ErrRange)
				}
			}
			for _, start := range noDays {
				wantPlan(t, *c, start, month, 1000, many, nil, api.ErrRange)
			}
			if e != api.OK {
				wantPlan(t, *c, 700000, month, 1000, many, nil, e)
				// The calendar of the first one tells ahead of a term behind it that would run over.
				wantPlan(t, *c, api.LastDay, month, 1000, many, nil, e)
			}
		}
	}
}

// TestQ1Late: what is late is told by the first instalment that is too late, as a day of which work is not asked, or as a
// term that begins behind the last day.
func TestQ1Late(t *testing.T) {
	wantPlan(t, plain, api.LastDay, day, 5, 1, nil, api.ErrRange)
	wantPlan(t, plain, api.LastDay, day, 5, 2, nil, api.ErrRange)
	wantPlan(t, plain, farthest+1, day, 5, 1, nil, api.ErrRange)
	wantPlan(t, plain, farthest, day, 5, 2, nil, api.ErrRange)
	wantPlan(t, plain, farthest, year, 5, 2, nil, api.ErrRange)
	wantPlan(t, plain, farthest, api.Term{Unit: api.Days, N: 120}, 5, 5, nil, api.ErrRange)
	wantPlan(t, plain, farthest, api.Term{Unit: api.Years, N: 2}, 5, 2, nil, api.ErrOver)
	wantPlan(t, plain, farthest-1, api.Term{Unit: api.Months, N: 13}, 5, 2, nil, api.ErrOver)
	wantPlan(t, plain, number(9000, 1, 1), api.Term{Unit: api.Years, N: api.MaxTerm}, 5, 9, list(number(9000, 1, 1), 1, number(9120, 1, 1), 1, number(9240, 1, 1), 1, number(9360, 1, 1), 1, number(9480, 1, 1), 1, number(9600, 1, 1), 0, number(9720, 1, 1), 0, number(9840, 1, 1), 0, number(9960, 1, 1), 0), api.OK)
	wantPlan(t, plain, number(9000, 1, 1), api.Term{Unit: api.Years, N: api.MaxTerm}, 5, 10, nil, api.ErrOver)
	// The search for a day of work that comes to a day of which it is not asked.
	only := api.Calendar{}
	for i := range only.Rest {
		only.Rest[i] = i != (int(moment(farthest).Weekday())+5)%7
	}
	wantPlan(t, only, farthest-1, day, 5, 1, list(farthest-1, 5), api.OK)
	wantPlan(t, only, farthest, day, 5, 1, nil, api.ErrRange)
	wantPlan(t, only, farthest-1, day, 5, 2, nil, api.ErrRange)
}

func TestQ2Check(t *testing.T) {
	for _, l := range rightDues() {
		wantCheck(t, l, api.OK)
	}
	for e, all := range wrongDues() {
		for _, l := range all {
			wantCheck(t, l, e)
		}
	}
}

// TestQ2EveryPlace: one number that may not stand there, at whatever place.
func TestQ2EveryPlace(t *testing.T) {
	for i := range api.MaxShares {
		with := func(n, pence int) []api.Due {
			l := slices.Repeat(list(500, 7), api.MaxShares)
			l[i] = api.Due{Day: n, Pence: pence}
			return l
		}
		early, late := api.ErrState, api.ErrState
		if i == 0 {
			early = api.OK
		}
		if i == api.MaxShares-1 {
			late = api.OK
		}
		wantCheck(t, with(500, 0), api.OK)
		wantCheck(t, with(500, api.MaxPence), api.OK)
		wantCheck(t, with(499, 7), early)
		wantCheck(t, with(1, 7), early)
		wantCheck(t, with(501, 7), late)
		wantCheck(t, with(api.LastDay, 7), late)
		wantCheck(t, with(0, 7), api.ErrRange)
		wantCheck(t, with(api.LastDay+1, 7), api.ErrRange)
		wantCheck(t, with(500, -1), api.ErrRange)
		wantCheck(t, with(500, api.MaxPence+1), api.ErrRange)
	}
}

func TestQ2Paid(t *testing.T) {
	l := list(5, 1, 5, 2, 9, 4)
	for n, want := range map[int][2]int{0: {0, 7}, 4: {0, 7}, 5: {3, 4}, 6: {3, 4}, 8: {3, 4}, 9: {7, 0}, 10: {7, 0}, api.LastDay: {7, 0}} {
		wantPaid(t, l, n, want[0], want[1], api.OK)
		wantPaid(t, nil, n, 0, 0, api.OK)
	}
	// Any day may be asked of, also one that is none.
	for _, n := range noDays {
		if n <= 0 {
			wantPaid(t, l, n, 0, 7, api.OK)
		} else {
			wantPaid(t, l, n, 7, 0, api.OK)
		}
	}
	// All together may be more than an amount is.
	wantPaid(t, slices.Repeat(list(5, api.MaxPence), api.MaxShares), 5, api.MaxShares*api.MaxPence, 0, api.OK)
	wantPaid(t, slices.Repeat(list(5, api.MaxPence), api.MaxShares), 4, 0, api.MaxShares*api.MaxPence, api.OK)
	wantPaid(t, list(1, 3, api.LastDay, 4), api.LastDay-1, 3, 4, api.OK)
}

func TestQ2PaidWrong(t *testing.T) {
	for e, all := range wrongDues() {
		for _, l := range all {
			for _, n := range append([]int{1, 5, api.LastDay}, noDays...) {
				wantPaid(t, l, n, 0, 0, e)
			}
		}
	}
}

// TestQ3Total: what is due is the total, in parts that differ by a penny at most, on days that do not fall; and on each
// day what is due up to it and behind it is the total.
func TestQ3Total(t *testing.T) {
	r := rand.New(rand.NewSource(2))
	for range 2000 {
		c, x := drawn(r), drawnTerm(r)
		start, total, many := 1+r.Intn(2000000), r.Intn(api.MaxPence+1)>>r.Intn(41), 1+r.Intn(api.MaxShares)
		l, err := dues.Plan(c, start, x, total, many)
		if err != api.OK || len(l) != many {
			t.Fatalf("Plan(%v, %d, %v, %d, %d): %v %d", c, start, x, total, many, l, err)
		}
		wantCheck(t, l, api.OK)
		sum, least, most := 0, l[0].Pence, l[0].Pence
		for _, d := range l {
			wantPaid(t, l, d.Day-1, sumAhead(l, d.Day), total-sumAhead(l, d.Day), api.OK)
			sum, least, most = sum+d.Pence, min(least, d.Pence), max(most, d.Pence)
			if isFree(c, d.Day) {
				t.Errorf("%v is due on a day that is none of work", d)
			}
		}
		if sum != total || most-least > 1 {
			t.Errorf("of %d there is %d due, in parts from %d to %d", total, sum, least, most)
		}
		wantPaid(t, l, l[many-1].Day, total, 0, api.OK)
	}
}

func sumAhead(l []api.Due, n int) int {
	sum := 0
	for _, d := range l {
		if d.Day < n {
			sum += d.Pence
		}
	}
	return sum
}

// told: all answers of a plan, and of dues.
func told(c api.Calendar, start int, x api.Term, total, many int, l []api.Due) string {
	plan, e1 := dues.Plan(c, start, x, total, many)
	upTo, behind, e2 := dues.Paid(l, start)
	return fmt.Sprint(plan, e1, upTo, behind, e2, dues.Check(l))
}

// TestP1AnyNumbers: no call panics, whatever it is handed, and with an error there is nothing else.
func TestP1AnyNumbers(t *testing.T) {
	r := rand.New(rand.NewSource(3))
	about := func(most int) int {
		if r.Intn(40) == 0 {
			return int(r.Uint64())
		}
		return r.Intn(most+4) - 2
	}
	for range 20000 {
		c := drawn(r)
		if r.Intn(4) == 0 {
			c.Rules = append(c.Rules, api.Rule{Kind: about(4), M: about(12), D: about(31), W: about(7)})
		}
		x := api.Term{Unit: about(4), N: about(api.MaxTerm)}
		start, total, many := about(api.LastDay), about(1000), about(api.MaxShares)
		if plan, err := dues.Plan(c, start, x, total, many); (err == api.OK) != (len(plan) > 0) {
			t.Errorf("Plan(%v, %d, %v, %d, %d): %v %d", c, start, x, total, many, plan, err)
		}
		l := make([]api.Due, r.Intn(4))
		for i := range l {
			l[i] = api.Due{Day: about(20), Pence: about(20)}
		}
		if upTo, behind, err := dues.Paid(l, about(20)); (upTo != 0 || behind != 0) && err != api.OK {
			t.Errorf("Paid of %v: %d %d %d", l, upTo, behind, err)
		}
	}
}

// TestP2OnlyRead: rules, dues and the spare room behind them are as they were.
func TestP2OnlyRead(t *testing.T) {
	rules := append(slices.Clone(bank.Rules), api.Rule{Kind: 9, M: 9, D: 9, W: 9})
	room := list(5, 1, 700000, 2, 9, 4, 0, -1)
	wasRules, wasRoom := slices.Clone(rules), slices.Clone(room)
	for many := range len(rules) + 1 {
		for some := range len(room) + 1 {
			told(api.Calendar{Rest: bank.Rest, Rules: rules[:many]}, 700000, month, 1000, 5, room[:some])
			if !slices.Equal(rules, wasRules) || !slices.Equal(room, wasRoom) {
				t.Fatalf("there is %v and %v, and was %v and %v", rules, room, wasRules, wasRoom)
			}
		}
	}
}

// TestP2AnswersAreTheCallers: what is done to one answer is not seen in the next one.
func TestP2AnswersAreTheCallers(t *testing.T) {
	c := api.Calendar{Rest: bank.Rest, Rules: slices.Clone(bank.Rules)}
	one, _ := dues.Plan(c, 700000, month, 1000, 5)
	two, _ := dues.Plan(c, 700000, month, 1000, 5)
	was := slices.Clone(one)
	clear(c.Rules)
	if !slices.Equal(one, was) || !slices.Equal(two, was) {
		t.Errorf("there is %v and %v, and was %v", one, two, was)
	}
	clear(one[:cap(one)])
	if !slices.Equal(two, was) {
		t.Errorf("it is %v, and was %v", two, was)
	}
	wantPlan(t, bank, 700000, month, 1000, 5, was, api.OK)
}

// TestP3NothingIsKept: asked backward and by many at once, the answers are the same.
func TestP3NothingIsKept(t *testing.T) {
	r := rand.New(rand.NewSource(4))
	const count = 200
	asks := make([]func() string, count)
	first := make([]string, count)
	for i := range count {
		c, x, start, total, many := drawn(r), drawnTerm(r), 1+r.Intn(api.LastDay), r.Intn(100000), 1+r.Intn(api.MaxShares)
		l, _ := planned(c, 700000, x, total, min(many, 5))
		asks[i] = func() string { return told(c, start, x, total, many, l) }
		first[i] = asks[i]()
	}
	var all sync.WaitGroup
	for range 4 {
		all.Go(func() {
			for i := count - 1; i >= 0; i-- {
				if again := asks[i](); again != first[i] {
					t.Errorf("%s, and it was %s", again, first[i])
				}
			}
		})
	}
	all.Wait()
}
