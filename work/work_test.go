package work_test

import (
	"fmt"
	"math"
	"math/rand"
	"slices"
	"sync"
	"testing"
	"time"

	"swinggate/api"
	"swinggate/easter"
	"swinggate/work"
)

const (
	farthest  = api.LastDay - 366
	mostApart = 2000
)

var (
	extremes = []int{math.MinInt, math.MinInt + 1, math.MinInt32, -1 << 40, 1 << 40, math.MaxInt32, math.MaxInt - 1, math.MaxInt}
	weekend  = [7]bool{5: true, 6: true}
	allRest  = [7]bool{true, true, true, true, true, true, true}

	// plain: a weekend and no holiday; bank: some of each kind; sundays: one day of work a week, and a holiday at the year's end.
	plain   = api.Calendar{Rest: weekend}
	bank    = api.Calendar{Rest: weekend, Rules: []api.Rule{{Kind: api.Fixed, M: 1, D: 1}, {Kind: api.Fixed, M: 12, D: 25}, {Kind: api.Fixed, M: 12, D: 26}, {Kind: api.Nth, M: 5, D: 1, W: 1}, {Kind: api.Nth, M: 8, D: 5, W: 1}, {Kind: api.Moving, D: -2}, {Kind: api.Moving, D: 1}}}
	sundays = api.Calendar{Rest: [7]bool{true, true, true, true, true, true, false}, Rules: []api.Rule{{Kind: api.Fixed, M: 12, D: 31}}}
)

// number and moment of a day go by the library's calendar, so that they lean on no package of the project.
func number(y, m, d int) int {
	at := time.Date(y, time.Month(m), d, 0, 0, 0, 0, time.UTC)
	return int((at.Unix()-moment(1).Unix())/86400) + 1
}

func moment(n int) time.Time { return time.Date(1, 1, n, 0, 0, 0, 0, time.UTC) }

// weekday of a day, from 1, a Monday, to 7.
func weekday(n int) int { return (int(moment(n).Weekday())+6)%7 + 1 }

func isRest(c api.Calendar, n int) bool { return c.Rest[weekday(n)-1] }

// holidaysOf a year, each rule by going through days.
func holidaysOf(c api.Calendar, y int) []int {
	var out []int
	for _, r := range c.Rules {
		switch {
		case r.Kind == api.Fixed:
			n := number(y, r.M, r.D)
			for isRest(c, n) {
				n++
			}
			out = append(out, n)
		case r.Kind == api.Nth:
			out = append(out, nthOf(r, y))
		case y >= api.FirstEaster:
			n, _ := easter.Sunday(y)
			out = append(out, n+r.D)
		}
	}
	slices.Sort(out)
	return slices.Compact(out)
}

func nthOf(r api.Rule, y int) int {
	var such []int
	for n := number(y, r.M, 1); int(moment(n).Month()) == r.M; n++ {
		if weekday(n) == r.W {
			such = append(such, n)
		}
	}
	if r.D == 5 {
		return such[len(such)-1]
	}
	return such[r.D-1]
}

func isWork(c api.Calendar, n int) bool {
	y := moment(n).Year()
	return !isRest(c, n) && !slices.Contains(holidaysOf(c, y), n) && (y == 1 || !slices.Contains(holidaysOf(c, y-1), n))
}

func wantCheck(t *testing.T, c api.Calendar, e api.Errno) {
	t.Helper()
	if err := work.Check(c); err != e {
		t.Errorf("Check(%v): %d, and must be %d", c, err, e)
	}
}

func wantHolidays(t *testing.T, c api.Calendar, y int, l []int, e api.Errno) {
	t.Helper()
	if got, err := work.Holidays(c, y); !slices.Equal(got, l) || err != e {
		t.Errorf("Holidays(%v, %d): %v %d, and must be %v %d", c, y, got, err, l, e)
	}
}

func wantIs(t *testing.T, c api.Calendar, n int, is bool, e api.Errno) {
	t.Helper()
	if got, err := work.Is(c, n); got != is || err != e {
		t.Errorf("Is(%v, %d): %v %d, and must be %v %d", c, n, got, err, is, e)
	}
}

func wantNext(t *testing.T, c api.Calendar, n, next int, e api.Errno) {
	t.Helper()
	if got, err := work.Next(c, n); got != next || err != e {
		t.Errorf("Next(%v, %d): %d %d, and must be %d %d", c, n, got, err, next, e)
	}
}

func wantAdd(t *testing.T, c api.Calendar, n, many, day int, e api.Errno) {
	t.Helper()
	if got, err := work.Add(c, n, many); got != day || err != e {
		t.Errorf("Add(%v, %d, %d): %d %d, and must be %d %d", c, n, many, got, err, day, e)
	}
}

func wantCount(t *testing.T, c api.Calendar, from, to, many int, e api.Errno) {
	t.Helper()
	if got, err := work.Count(c, from, to); got != many || err != e {
		t.Errorf("Count(%v, %d, %d): %d %d, and must be %d %d", c, from, to, got, err, many, e)
	}
}

// drawn calendar, of its form.
func drawn(r *rand.Rand) api.Calendar {
	var c api.Calendar
	for i := range c.Rest {
		c.Rest[i] = r.Intn(3) == 0
	}
	c.Rest[r.Intn(7)] = false
	for range r.Intn(api.MaxRules + 1) {
		switch r.Intn(3) {
		case 0:
			d := moment(number(2001, 1, 1+r.Intn(365)))
			c.Rules = append(c.Rules, api.Rule{Kind: api.Fixed, M: int(d.Month()), D: d.Day()})
		case 1:
			c.Rules = append(c.Rules, api.Rule{Kind: api.Nth, M: 1 + r.Intn(12), D: 1 + r.Intn(5), W: 1 + r.Intn(7)})
		default:
			c.Rules = append(c.Rules, api.Rule{Kind: api.Moving, D: r.Intn(2*api.MaxOff+1) - api.MaxOff})
		}
	}
	return c
}

func TestC1Rest(t *testing.T) {
	for mask := range 128 {
		var c api.Calendar
		for i := range c.Rest {
			c.Rest[i] = mask>>i&1 == 1
		}
		want := api.OK
		if mask == 127 {
			want = api.ErrForm
		}
		wantCheck(t, c, want)
	}
}

func TestC1Many(t *testing.T) {
	rules := make([]api.Rule, api.MaxRules+1)
	for i := range rules {
		rules[i] = api.Rule{Kind: api.Moving}
	}
	wantCheck(t, api.Calendar{Rules: rules[:api.MaxRules]}, api.OK)
	wantCheck(t, api.Calendar{Rules: rules}, api.ErrMany)
}

func TestC1Fixed(t *testing.T) {
	last := [13]int{1: 31, 28, 31, 30, 31, 30, 31, 31, 30, 31, 30, 31}
	for m := -1; m <= 14; m++ {
		for d := -1; d <= 33; d++ {
			want := api.ErrRange
			if m >= 1 && m <= 12 && d >= 1 && d <= last[m] {
				want = api.OK
			}
			wantRule(t, api.Rule{Kind: api.Fixed, M: m, D: d}, want)
			if want == api.OK {
				want = api.ErrForm
			}
			for _, w := range []int{1, -1, 7, math.MaxInt} {
				wantRule(t, api.Rule{Kind: api.Fixed, M: m, D: d, W: w}, want)
			}
		}
	}
}

func TestC1Nth(t *testing.T) {
	for m := -1; m <= 14; m++ {
		for d := -1; d <= 7; d++ {
			for w := -1; w <= 9; w++ {
				want := api.ErrRange
				if m >= 1 && m <= 12 && d >= 1 && d <= 5 && w >= 1 && w <= 7 {
					want = api.OK
				}
				wantRule(t, api.Rule{Kind: api.Nth, M: m, D: d, W: w}, want)
			}
		}
	}
}

func TestC1Moving(t *testing.T) {
	for d := -api.MaxOff - 2; d <= api.MaxOff+2; d++ {
		want := api.OK
		if d < -api.MaxOff || d > api.MaxOff {
			want = api.ErrRange
		}
		wantRule(t, api.Rule{Kind: api.Moving, D: d}, want)
		wantRule(t, api.Rule{Kind: api.Moving, D: d, M: 1}, api.ErrForm)
		wantRule(t, api.Rule{Kind: api.Moving, D: d, W: 1}, api.ErrForm)
		wantRule(t, api.Rule{Kind: api.Moving, D: d, M: -1, W: -1}, api.ErrForm)
	}
}

func TestC1Extremes(t *testing.T) {
	for _, x := range extremes {
		wantRule(t, api.Rule{Kind: x}, api.ErrKind)
		wantRule(t, api.Rule{Kind: api.Fixed, M: x, D: 1}, api.ErrRange)
		wantRule(t, api.Rule{Kind: api.Fixed, M: 1, D: x}, api.ErrRange)
		wantRule(t, api.Rule{Kind: api.Nth, M: x, D: 1, W: 1}, api.ErrRange)
		wantRule(t, api.Rule{Kind: api.Nth, M: 1, D: x, W: 1}, api.ErrRange)
		wantRule(t, api.Rule{Kind: api.Nth, M: 1, D: 1, W: x}, api.ErrRange)
		wantRule(t, api.Rule{Kind: api.Moving, D: x}, api.ErrRange)
	}
	for _, k := range []int{-1, 0, 4} {
		wantRule(t, api.Rule{Kind: k, M: 1, D: 1}, api.ErrKind)
	}
}

func wantRule(t *testing.T, r api.Rule, e api.Errno) {
	t.Helper()
	wantCheck(t, api.Calendar{Rules: []api.Rule{r}}, e)
}

// TestC1FirstTells: rest ahead of how many, that ahead of rules, and the first rule of which something is wrong.
func TestC1FirstTells(t *testing.T) {
	kind, span, form := api.Rule{}, api.Rule{Kind: api.Nth}, api.Rule{Kind: api.Moving, W: 1}
	good := api.Rule{Kind: api.Fixed, M: 6, D: 30}
	wantCheck(t, api.Calendar{Rest: allRest, Rules: make([]api.Rule, 13)}, api.ErrForm)
	wantCheck(t, api.Calendar{Rest: allRest, Rules: []api.Rule{kind}}, api.ErrForm)
	wantCheck(t, api.Calendar{Rules: make([]api.Rule, 13)}, api.ErrMany)
	wantCheck(t, api.Calendar{Rules: []api.Rule{good, kind, span, form}}, api.ErrKind)
	wantCheck(t, api.Calendar{Rules: []api.Rule{good, span, form, kind}}, api.ErrRange)
	wantCheck(t, api.Calendar{Rules: []api.Rule{good, form, kind, span}}, api.ErrForm)
	wantCheck(t, api.Calendar{Rules: []api.Rule{good, good, good, span}}, api.ErrRange)
}

// TestC2KnownYears: days that stood in a country's calendar.
func TestC2KnownYears(t *testing.T) {
	wantHolidays(t, bank, 2021, []int{number(2021, 1, 1), number(2021, 4, 2), number(2021, 4, 5), number(2021, 5, 3), number(2021, 8, 30), number(2021, 12, 27)}, api.OK)
	wantHolidays(t, bank, 2022, []int{number(2022, 1, 3), number(2022, 4, 15), number(2022, 4, 18), number(2022, 5, 2), number(2022, 8, 29), number(2022, 12, 26)}, api.OK)
	wantHolidays(t, bank, 2024, []int{number(2024, 1, 1), number(2024, 3, 29), number(2024, 4, 1), number(2024, 5, 6), number(2024, 8, 26), number(2024, 12, 25), number(2024, 12, 26)}, api.OK)
	wantHolidays(t, plain, 2024, nil, api.OK)
}

// TestC2IntoTheNextYear: a Fixed holiday that is put off stays one of the year whose rule it is.
func TestC2IntoTheNextYear(t *testing.T) {
	for _, y := range []int{1, 2021, 2022, 2023, api.MaxYear - 1} {
		n := number(y, 12, 31)
		for weekday(n) != 7 {
			n++
		}
		wantHolidays(t, sundays, y, []int{n}, api.OK)
		if n <= farthest {
			wantIs(t, sundays, n, false, api.OK)
		}
	}
	wantHolidays(t, sundays, 2021, []int{number(2022, 1, 2)}, api.OK)
	wantIs(t, sundays, number(2022, 1, 2), false, api.OK)
	wantIs(t, sundays, number(2022, 1, 9), true, api.OK)
}

// TestC2OnlyFixedIsPutOff: a holiday of another kind on a day of rest stays there.
func TestC2OnlyFixedIsPutOff(t *testing.T) {
	c := api.Calendar{Rest: weekend, Rules: []api.Rule{{Kind: api.Nth, M: 5, D: 2, W: 7}, {Kind: api.Moving, D: 49}}}
	wantHolidays(t, c, 2024, []int{number(2024, 5, 12), number(2024, 5, 19)}, api.OK)
	wantIs(t, c, number(2024, 5, 13), true, api.OK)
}

func TestC2MovingFromTheFirstEasterOn(t *testing.T) {
	c := api.Calendar{Rules: []api.Rule{{Kind: api.Moving}, {Kind: api.Fixed, M: 7, D: 1}}}
	wantHolidays(t, c, api.FirstEaster-1, []int{number(1582, 7, 1)}, api.OK)
	wantHolidays(t, c, api.FirstEaster, []int{number(1583, 4, 10), number(1583, 7, 1)}, api.OK)
	wantHolidays(t, c, api.MinYear, []int{number(1, 7, 1)}, api.OK)
}

func TestC2EachOnce(t *testing.T) {
	var c api.Calendar
	for range api.MaxRules {
		c.Rules = append(c.Rules, api.Rule{Kind: api.Fixed, M: 3, D: 31})
	}
	c.Rules[7] = api.Rule{Kind: api.Moving}
	c.Rules[11] = api.Rule{Kind: api.Nth, M: 3, D: 5, W: 7}
	wantHolidays(t, c, 2024, []int{number(2024, 3, 31)}, api.OK)
	c.Rules[0] = api.Rule{Kind: api.Nth, M: 1, D: 1, W: 1}
	wantHolidays(t, c, 2024, []int{number(2024, 1, 1), number(2024, 3, 31)}, api.OK)
}

// TestC2EveryNth: of every month, the Dth or last one of every weekday, in years that begin with any weekday.
func TestC2EveryNth(t *testing.T) {
	for y := 2010; y <= 2040; y++ {
		for m := 1; m <= 12; m++ {
			for i := range 35 {
				r := api.Rule{Kind: api.Nth, M: m, D: i/7 + 1, W: i%7 + 1}
				wantHolidays(t, api.Calendar{Rules: []api.Rule{r}}, y, []int{nthOf(r, y)}, api.OK)
			}
		}
	}
}

func TestC2DrawnCalendars(t *testing.T) {
	r := rand.New(rand.NewSource(1))
	for range 3000 {
		c, y := drawn(r), 1+r.Intn(api.MaxYear-1)
		wantHolidays(t, c, y, holidaysOf(c, y), api.OK)
	}
}

func TestC2WrongYears(t *testing.T) {
	for _, y := range append([]int{0, -1, api.MaxYear, api.MaxYear + 1}, extremes...) {
		wantHolidays(t, bank, y, nil, api.ErrRange)
		wantHolidays(t, api.Calendar{Rest: allRest}, y, nil, api.ErrForm)
	}
	wantHolidays(t, sundays, api.MaxYear-1, []int{number(9999, 1, 3)}, api.OK)
}

func TestC3IsOfDrawnCalendars(t *testing.T) {
	r := rand.New(rand.NewSource(2))
	for range 60 {
		c, n := drawn(r), 1+r.Intn(farthest-400)
		for k := range 400 {
			wantIs(t, c, n+k, isWork(c, n+k), api.OK)
		}
	}
	for n := 1; n <= 400; n++ {
		wantIs(t, bank, n, isWork(bank, n), api.OK)
		wantIs(t, bank, farthest-n+1, isWork(bank, farthest-n+1), api.OK)
	}
}

// TestC3HolidayOfTheNextYear: a Moving one may lie ahead of its year; the day's own year and the one before do not have it.
func TestC3HolidayOfTheNextYear(t *testing.T) {
	c := api.Calendar{Rules: []api.Rule{{Kind: api.Moving, D: -api.MaxOff}}}
	n := number(2284, 12, 12)
	wantHolidays(t, c, 2285, []int{n}, api.OK)
	wantIs(t, c, n, true, api.OK)
	wantIs(t, c, number(2025, 1, 10), false, api.OK)
}

func TestC3NextOfDrawnCalendars(t *testing.T) {
	r := rand.New(rand.NewSource(3))
	for range 2000 {
		c, n := drawn(r), 1+r.Intn(farthest-100)
		next := n
		for !isWork(c, next) {
			next++
		}
		wantNext(t, c, n, next, api.OK)
	}
	wantNext(t, plain, number(2024, 3, 30), number(2024, 4, 1), api.OK)
	wantNext(t, bank, number(2024, 3, 29), number(2024, 4, 2), api.OK)
	wantNext(t, bank, number(2024, 4, 2), number(2024, 4, 2), api.OK)
	wantNext(t, bank, 1, 2, api.OK)
}

func TestC3AddOfDrawnCalendars(t *testing.T) {
	r := rand.New(rand.NewSource(4))
	for range 60 {
		c, n := drawn(r), 1+r.Intn(farthest-4000)
		day := n
		for many := range 60 {
			wantAdd(t, c, n, many, day, api.OK)
			for day++; !isWork(c, day); day++ {
			}
		}
	}
}

// TestC3AddNothing: 0 days of work on it is the day itself, of work or not.
func TestC3AddNothing(t *testing.T) {
	for _, n := range []int{1, 6, 7, number(2024, 3, 31), farthest} {
		wantAdd(t, bank, n, 0, n, api.OK)
	}
	wantAdd(t, bank, number(2024, 3, 28), 1, number(2024, 4, 2), api.OK)
	wantAdd(t, bank, number(2024, 3, 30), 1, number(2024, 4, 2), api.OK)
}

func TestC3AddMany(t *testing.T) {
	wantAdd(t, api.Calendar{}, 1, api.MaxWork, 1+api.MaxWork, api.OK)
	wantAdd(t, plain, 1, api.MaxWork, 1+api.MaxWork/5*7, api.OK)
	only := api.Calendar{Rest: sundays.Rest}
	wantAdd(t, only, 7, api.MaxWork, 7+api.MaxWork*7, api.OK)
	for _, many := range append([]int{-1, api.MaxWork + 1}, extremes...) {
		wantAdd(t, bank, 700000, many, 0, api.ErrRange)
	}
}

func TestC3CountOfDrawnCalendars(t *testing.T) {
	r := rand.New(rand.NewSource(5))
	for range 60 {
		c, n := drawn(r), 1+r.Intn(farthest-1000)
		many := 0
		for k := range 500 {
			wantCount(t, c, n, n+k, many, api.OK)
			if isWork(c, n+k) {
				many++
			}
		}
	}
}

func TestC3CountEdges(t *testing.T) {
	wantCount(t, api.Calendar{}, 1, 1+mostApart, mostApart, api.OK)
	wantCount(t, api.Calendar{}, 1, 2+mostApart, 0, api.ErrMany)
	wantCount(t, api.Calendar{}, farthest-mostApart, farthest, mostApart, api.OK)
	wantCount(t, api.Calendar{}, farthest-mostApart-1, farthest, 0, api.ErrMany)
	wantCount(t, api.Calendar{}, farthest, farthest, 0, api.OK)
	wantCount(t, plain, 1, 8, 5, api.OK)
	wantCount(t, bank, 2, 1, 0, api.ErrState)
	wantCount(t, bank, farthest, 1, 0, api.ErrState)
	wantCount(t, bank, 1, farthest, 0, api.ErrMany)
}

// TestC3NoSuchDay: days that are none tell ahead of what stands behind that in the promise.
func TestC3NoSuchDay(t *testing.T) {
	for _, n := range append([]int{0, -1, farthest + 1, api.LastDay, api.LastDay + 1}, extremes...) {
		wantIs(t, bank, n, false, api.ErrRange)
		wantNext(t, bank, n, 0, api.ErrRange)
		wantAdd(t, bank, n, 0, 0, api.ErrRange)
		wantAdd(t, bank, n, 3, 0, api.ErrRange)
		wantCount(t, bank, n, 700000, 0, api.ErrRange)
		wantCount(t, bank, 700000, n, 0, api.ErrRange)
		wantCount(t, bank, n, n, 0, api.ErrRange)
	}
}

// TestC3BehindTheLastDay: a search that comes to a day that Is refuses tells so, and one that ends ahead of it does not.
func TestC3BehindTheLastDay(t *testing.T) {
	only := func(w int) api.Calendar {
		c := api.Calendar{Rest: allRest}
		c.Rest[w-1] = false
		return c
	}
	today, yesterday := weekday(farthest), weekday(farthest-1)
	wantNext(t, only(today), farthest, farthest, api.OK)
	wantNext(t, only(today), farthest-6, farthest, api.OK)
	wantNext(t, only(yesterday), farthest, 0, api.ErrRange)
	wantAdd(t, only(today), farthest-7, 1, farthest, api.OK)
	wantAdd(t, only(today), farthest-7, 2, 0, api.ErrRange)
	wantAdd(t, only(today), farthest, 1, 0, api.ErrRange)
	wantAdd(t, api.Calendar{}, farthest-5, 5, farthest, api.OK)
	wantAdd(t, api.Calendar{}, farthest-5, 6, 0, api.ErrRange)
}

// TestC3CheckTellsFirst: whatever else is wrong.
func TestC3CheckTellsFirst(t *testing.T) {
	for _, c := range []api.Calendar{{Rest: allRest}, {Rules: make([]api.Rule, 13)}, {Rules: make([]api.Rule, 1)}, {Rules: []api.Rule{{Kind: api.Moving, D: 101}}}} {
		e := work.Check(c)
		for _, n := range []int{0, 1, 700000, farthest + 1, math.MaxInt} {
			wantIs(t, c, n, false, e)
			wantNext(t, c, n, 0, e)
			wantAdd(t, c, n, 0, 0, e)
			wantAdd(t, c, n, -1, 0, e)
			wantCount(t, c, n, n-1, 0, e)
			wantCount(t, c, 1, n, 0, e)
		}
	}
}

func TestC4SoManyLieBehind(t *testing.T) {
	r := rand.New(rand.NewSource(6))
	for range 400 {
		c, n, many := drawn(r), 1+r.Intn(farthest-8000), r.Intn(200)
		day, err := work.Add(c, n, many)
		if err != api.OK {
			t.Fatalf("Add(%v, %d, %d): %d", c, n, many, err)
		}
		wantCount(t, c, n+1, day+1, many, api.OK)
	}
}

// told: all answers of one calendar and one day.
func told(c api.Calendar, n int) string {
	l, e1 := work.Holidays(c, n%10001)
	is, e2 := work.Is(c, n)
	next, e3 := work.Next(c, n)
	day, e4 := work.Add(c, n, n%420)
	many, e5 := work.Count(c, n, n+n%2010)
	return fmt.Sprint(work.Check(c), l, e1, is, e2, next, e3, day, e4, many, e5)
}

// TestP2OnlyRead: the rules and the spare room behind them are as they were, and an answer is the caller's.
func TestP2OnlyRead(t *testing.T) {
	room := make([]api.Rule, 20)
	for i := range room {
		room[i] = api.Rule{Kind: api.Moving, D: i}
	}
	was := slices.Clone(room)
	c := api.Calendar{Rest: weekend, Rules: room[3:9]}
	first := told(c, 738976)
	if !slices.Equal(room, was) {
		t.Errorf("the rules are %v", room)
	}
	l, _ := work.Holidays(c, 2024)
	clear(l[:cap(l)])
	if again := told(c, 738976); again != first {
		t.Errorf("%s, and it was %s", again, first)
	}
	room[4].D = -50
	if again := told(c, 738976); again == first {
		t.Errorf("another rule was not seen: %s", again)
	}
}

// TestP3NothingIsKept: asked backward and by many at once, the answers are the same.
func TestP3NothingIsKept(t *testing.T) {
	r := rand.New(rand.NewSource(7))
	cals, days, first := make([]api.Calendar, 60), make([]int, 60), make([]string, 60)
	for i := range cals {
		cals[i], days[i] = drawn(r), 1+r.Intn(farthest)
		first[i] = told(cals[i], days[i])
	}
	var all sync.WaitGroup
	for range 4 {
		all.Go(func() {
			for i := len(cals) - 1; i >= 0; i-- {
				if again := told(cals[i], days[i]); again != first[i] {
					t.Errorf("%s, and it was %s", again, first[i])
				}
			}
		})
	}
	all.Wait()
}
