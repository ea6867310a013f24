package date_test

import (
	"math"
	"sync"
	"testing"

	"swinggate/api"
	"swinggate/date"
)

// extremes: numbers with which a sum or a product inside would run over.
var extremes = []int{math.MinInt, math.MinInt + 1, math.MinInt32, -1 << 40, 1 << 40, math.MaxInt32, math.MaxInt - 1, math.MaxInt}

// lastOf a month, told month by month, so that it leans on nothing of the package.
func lastOf(y, m int) int {
	switch m {
	case 4, 6, 9, 11:
		return 30
	case 2:
		if y%400 == 0 || y%100 != 0 && y%4 == 0 {
			return 29
		}
		return 28
	}
	return 31
}

func next(d api.Date) api.Date {
	switch {
	case d.D < lastOf(d.Y, d.M):
		return api.Date{Y: d.Y, M: d.M, D: d.D + 1}
	case d.M < 12:
		return api.Date{Y: d.Y, M: d.M + 1, D: 1}
	}
	return api.Date{Y: d.Y + 1, M: 1, D: 1}
}

func wantDay(t *testing.T, d api.Date, n int, e api.Errno) {
	t.Helper()
	if got, err := date.Day(d); got != n || err != e {
		t.Errorf("Day(%v): %d %d, and must be %d %d", d, got, err, n, e)
	}
}

func wantOf(t *testing.T, n int, d api.Date, e api.Errno) {
	t.Helper()
	if got, err := date.Of(n); got != d || err != e {
		t.Errorf("Of(%d): %v %d, and must be %v %d", n, got, err, d, e)
	}
}

func wantWeek(t *testing.T, n int, w api.Week, e api.Errno) {
	t.Helper()
	if got, err := date.Week(n); got != w || err != e {
		t.Errorf("Week(%d): %v %d, and must be %v %d", n, got, err, w, e)
	}
}

func wantOfWeek(t *testing.T, w api.Week, n int, e api.Errno) {
	t.Helper()
	if got, err := date.OfWeek(w); got != n || err != e {
		t.Errorf("OfWeek(%v): %d %d, and must be %d %d", w, got, err, n, e)
	}
}

func TestA1Leap(t *testing.T) {
	for _, y := range []int{4, 400, 1996, 2000, 2024, 9996, 10000, 0, -4, -400, 1 << 40, math.MinInt} {
		if !date.Leap(y) {
			t.Errorf("%d is a leap year", y)
		}
	}
	for _, y := range []int{1, 2, 3, 100, 200, 300, 1900, 2023, 2100, 9999, -1, -2, -3, -100, -1900, math.MaxInt, math.MinInt + 1} {
		if date.Leap(y) {
			t.Errorf("%d is no leap year", y)
		}
	}
}

func TestA1EveryDay(t *testing.T) {
	d := api.Date{Y: 1, M: 1, D: 1}
	for n := 1; n <= api.LastDay && !t.Failed(); n++ {
		wantDay(t, d, n, api.OK)
		wantOf(t, n, d, api.OK)
		d = next(d)
	}
	if d != (api.Date{Y: api.MaxYear + 1, M: 1, D: 1}) {
		t.Errorf("behind LastDay comes %v", d)
	}
}

func TestA1NoSuchDate(t *testing.T) {
	for y := api.MinYear; y <= api.MaxYear; y++ {
		for m := 1; m <= 12; m++ {
			wantDay(t, api.Date{Y: y, M: m, D: 0}, 0, api.ErrRange)
			wantDay(t, api.Date{Y: y, M: m, D: lastOf(y, m) + 1}, 0, api.ErrRange)
		}
	}
	for _, d := range []api.Date{{}, {Y: 0, M: 1, D: 1}, {Y: -4, M: 2, D: 29}, {Y: 10000, M: 1, D: 1}, {Y: 2000, M: 0, D: 1}, {Y: 2000, M: 13, D: 1}, {Y: 2000, M: -1, D: 1}, {Y: 2000, M: 1, D: -1}, {Y: 2023, M: 2, D: 29}, {Y: 1900, M: 2, D: 29}} {
		wantDay(t, d, 0, api.ErrRange)
	}
	for _, x := range extremes {
		for _, d := range []api.Date{{Y: x, M: 1, D: 1}, {Y: 2000, M: x, D: 1}, {Y: 2000, M: 1, D: x}, {Y: x, M: x, D: x}} {
			wantDay(t, d, 0, api.ErrRange)
		}
	}
}

func TestA1NoSuchNumber(t *testing.T) {
	for _, n := range append([]int{0, -1, api.LastDay + 1}, extremes...) {
		wantOf(t, n, api.Date{}, api.ErrRange)
	}
}

// TestA2EveryDay counts weeks on: on a Monday a week begins, the first one of a year if its Thursday is of the first seven days.
func TestA2EveryDay(t *testing.T) {
	w := api.Week{}
	d := api.Date{Y: 1, M: 1, D: 1}
	for n := 1; n <= api.LastDay && !t.Failed(); n++ {
		w.Day++
		if n%7 == 1 {
			w = monday(w, d)
		}
		wantWeek(t, n, w, api.OK)
		wantOfWeek(t, w, n, api.OK)
		d = next(d)
	}
}

// monday: the first day of the week behind that of w; d is its date.
func monday(w api.Week, d api.Date) api.Week {
	middle := next(next(next(d)))
	if middle.M == 1 && middle.D <= 7 {
		return api.Week{Year: middle.Y, Week: 1, Day: 1}
	}
	return api.Week{Year: w.Year, Week: w.Week + 1, Day: 1}
}

func TestA2Edges(t *testing.T) {
	wantWeek(t, 1, api.Week{Year: 1, Week: 1, Day: 1}, api.OK)
	wantWeek(t, 7, api.Week{Year: 1, Week: 1, Day: 7}, api.OK)
	wantWeek(t, 8, api.Week{Year: 1, Week: 2, Day: 1}, api.OK)
	wantWeek(t, 730120, api.Week{Year: 1999, Week: 52, Day: 6}, api.OK)
	wantWeek(t, 739251, api.Week{Year: 2025, Week: 1, Day: 2}, api.OK)
	wantWeek(t, 737793, api.Week{Year: 2020, Week: 53, Day: 7}, api.OK)
	wantWeek(t, api.LastDay, api.Week{Year: 9999, Week: 52, Day: 5}, api.OK)
	for _, n := range append([]int{0, -1, -6, api.LastDay + 1, api.LastDay + 2}, extremes...) {
		wantWeek(t, n, api.Week{}, api.ErrRange)
	}
}

// TestA2LastWeek: a year has a week 53 just when it begins or ends on a Thursday.
func TestA2LastWeek(t *testing.T) {
	for y := api.MinYear; y <= api.MaxYear; y++ {
		first, _ := date.Day(api.Date{Y: y, M: 1, D: 1})
		last, _ := date.Day(api.Date{Y: y, M: 12, D: 31})
		_, err := date.OfWeek(api.Week{Year: y, Week: 53, Day: 1})
		if long := first%7 == 4 || last%7 == 4; long != (err == api.OK) {
			t.Errorf("week 53 of %d: %d", y, err)
		}
		for day := 1; day <= 7; day++ {
			wantOfWeek(t, api.Week{Year: y, Week: 0, Day: day}, 0, api.ErrRange)
			wantOfWeek(t, api.Week{Year: y, Week: 54, Day: day}, 0, api.ErrRange)
			if err != api.OK {
				wantOfWeek(t, api.Week{Year: y, Week: 53, Day: day}, 0, api.ErrRange)
			}
		}
	}
}

func TestA2NoSuchWeek(t *testing.T) {
	for _, w := range []api.Week{{}, {Year: 0, Week: 1, Day: 1}, {Year: 0, Week: 52, Day: 7}, {Year: 10000, Week: 1, Day: 1}, {Year: 2020, Week: 1, Day: 0}, {Year: 2020, Week: 1, Day: 8}, {Year: 2020, Week: 2, Day: -1}, {Year: 2020, Week: -1, Day: 1}, {Year: 9999, Week: 52, Day: 6}, {Year: 9999, Week: 52, Day: 7}, {Year: 9999, Week: 53, Day: 1}} {
		wantOfWeek(t, w, 0, api.ErrRange)
	}
	for _, x := range extremes {
		for _, w := range []api.Week{{Year: x, Week: 1, Day: 1}, {Year: 2020, Week: x, Day: 1}, {Year: 2020, Week: 1, Day: x}, {Year: x, Week: x, Day: x}} {
			wantOfWeek(t, w, 0, api.ErrRange)
		}
	}
}

// TestA3: 400 years on it is the same date and the same week, 146097 days on.
func TestA3(t *testing.T) {
	const years, days = 400, 146097
	if days%7 != 0 {
		t.Errorf("%d days are not whole weeks", days)
	}
	for n := 1; n+days <= api.LastDay && !t.Failed(); n += 5 {
		d, _ := date.Of(n)
		w, _ := date.Week(n)
		d.Y, w.Year = d.Y+years, w.Year+years
		wantOf(t, n+days, d, api.OK)
		wantDay(t, d, n+days, api.OK)
		wantWeek(t, n+days, w, api.OK)
		wantOfWeek(t, w, n+days, api.OK)
	}
}

// answers of all calls, about a number and what lies beside it.
type answers struct {
	leap           bool
	day, ofWeek    int
	of             api.Date
	week           api.Week
	e1, e2, e3, e4 api.Errno
}

func ask(n int) (a answers) {
	a.leap = date.Leap(n)
	a.day, a.e1 = date.Day(api.Date{Y: n % 10002, M: n % 14, D: n % 33})
	a.of, a.e2 = date.Of(n)
	a.week, a.e3 = date.Week(n)
	a.ofWeek, a.e4 = date.OfWeek(api.Week{Year: n % 10002, Week: n % 55, Day: n % 9})
	return a
}

// TestP1ErrorsComeAlone: with an error nothing else is told, and nothing panics, whatever is asked.
func TestP1ErrorsComeAlone(t *testing.T) {
	for n := -70000; n <= api.LastDay+70000; n += 37 {
		a := ask(n)
		if a.e1 != api.OK && a.day != 0 || a.e2 != api.OK && a.of != (api.Date{}) || a.e3 != api.OK && a.week != (api.Week{}) || a.e4 != api.OK && a.ofWeek != 0 {
			t.Fatalf("%d: %+v", n, a)
		}
	}
	for _, n := range extremes {
		ask(n)
	}
}

// TestP2OnlyRead: what is handed in is as it was.
func TestP2OnlyRead(t *testing.T) {
	d, w := api.Date{Y: 2000, M: 12, D: 31}, api.Week{Year: 2000, Week: 52, Day: 7}
	date.Day(d)
	date.OfWeek(w)
	if d != (api.Date{Y: 2000, M: 12, D: 31}) || w != (api.Week{Year: 2000, Week: 52, Day: 7}) {
		t.Errorf("they are %v and %v", d, w)
	}
}

// TestP3NothingIsKept: asked forward, backward and by many at once, the answers are the same.
func TestP3NothingIsKept(t *testing.T) {
	const count, step = 4000, 917
	first := make([]answers, count)
	for i := range count {
		first[i] = ask(i*step - step)
	}
	var all sync.WaitGroup
	for range 4 {
		all.Go(func() {
			for i := count - 1; i >= 0; i-- {
				if a := ask(i*step - step); a != first[i] {
					t.Errorf("%d: %+v, and it was %+v", i*step-step, a, first[i])
				}
			}
		})
	}
	all.Wait()
}

// TestP4LimitsHaveTheirAnswers: within the bound of what is promised, a limit of the chapter holds with its own answer.
func TestP4LimitsHaveTheirAnswers(t *testing.T) {
	wantDay(t, api.Date{Y: api.MinYear, M: 1, D: 1}, 1, api.OK)
	wantDay(t, api.Date{Y: api.MinYear - 1, M: 12, D: 31}, 0, api.ErrRange)
	wantDay(t, api.Date{Y: api.MaxYear, M: 12, D: 31}, api.LastDay, api.OK)
	wantDay(t, api.Date{Y: api.MaxYear + 1, M: 1, D: 1}, 0, api.ErrRange)
	wantOf(t, math.MaxInt32, api.Date{}, api.ErrRange)
	wantWeek(t, math.MaxInt32, api.Week{}, api.ErrRange)
}
