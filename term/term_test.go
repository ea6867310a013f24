package term_test

import (
	"fmt"
	"math"
	"math/rand"
	"slices"
	"sync"
	"testing"
	"time"

	"swinggate/api"
	"swinggate/spans"
	"swinggate/term"
)

var (
	extremes = []int{math.MinInt, math.MinInt + 1, math.MinInt32, -1 << 40, 1 << 40, math.MaxInt32, math.MaxInt - 1, math.MaxInt}
	noDays   = append([]int{0, -1, api.LastDay + 1}, extremes...)
	noTerms  = []api.Term{{}, {Unit: 5, N: 1}, {Unit: -1, N: 1}, {Unit: api.Days}, {Unit: api.Years, N: api.MaxTerm + 1}, {Unit: 0, N: 0}}

	day   = api.Term{Unit: api.Days, N: 1}
	week  = api.Term{Unit: api.Weeks, N: 1}
	month = api.Term{Unit: api.Months, N: 1}
	year  = api.Term{Unit: api.Years, N: 1}
)

// number and moment of a day go by the library's calendar, so that they lean on no package of the project.
func number(y, m, d int) int {
	at := time.Date(y, time.Month(m), d, 0, 0, 0, 0, time.UTC)
	return int((at.Unix()-moment(1).Unix())/86400) + 1
}

func moment(n int) time.Time { return time.Date(1, 1, n, 0, 0, 0, 0, time.UTC) }

// begin of the kth term by the library's calendar, however late it is.
func begin(start int, t api.Term, k int) int {
	many := k * t.N
	if t.Unit == api.Days {
		return start + many
	}
	if t.Unit == api.Weeks {
		return start + 7*many
	}
	if t.Unit == api.Years {
		many *= 12
	}
	at := moment(start)
	m := int(at.Month()) + many
	return min(number(at.Year(), m, at.Day()), number(at.Year(), m+1, 0))
}

// drawn term, and a day: terms that are short, and days at a month's end and late ones, are frequent.
func drawn(r *rand.Rand) (int, api.Term) {
	t := api.Term{Unit: 1 + r.Intn(4), N: 1 + r.Intn(api.MaxTerm)}
	if r.Intn(2) == 0 {
		t.N = 1 + r.Intn(4)
	}
	switch r.Intn(3) {
	case 0:
		return number(1+r.Intn(9999), 1+r.Intn(12), 29+r.Intn(3)), t
	case 1:
		return api.LastDay - r.Intn(4000), t
	}
	return 1 + r.Intn(api.LastDay), t
}

func wantCheck(t *testing.T, x api.Term, e api.Errno) {
	t.Helper()
	if err := term.Check(x); err != e {
		t.Errorf("Check(%v): %d, and must be %d", x, err, e)
	}
}

func wantNth(t *testing.T, start int, x api.Term, k, n int, e api.Errno) {
	t.Helper()
	if got, err := term.Nth(start, x, k); got != n || err != e {
		t.Errorf("Nth(%d, %v, %d): %d %d, and must be %d %d", start, x, k, got, err, n, e)
	}
}

func wantFind(t *testing.T, start int, x api.Term, n, k int, e api.Errno) {
	t.Helper()
	if got, err := term.Find(start, x, n); got != k || err != e {
		t.Errorf("Find(%d, %v, %d): %d %d, and must be %d %d", start, x, n, got, err, k, e)
	}
}

func wantFull(t *testing.T, start int, x api.Term, many int, l []api.Span, e api.Errno) {
	t.Helper()
	if got, err := term.Full(start, x, many); !slices.Equal(got, l) || err != e {
		t.Errorf("Full(%d, %v, %d): %v %d, and must be %v %d", start, x, many, got, err, l, e)
	}
}

func TestE1Check(t *testing.T) {
	counts := append([]int{-1, 0, 1, 2, 12, api.MaxTerm - 1, api.MaxTerm, api.MaxTerm + 1}, extremes...)
	for _, n := range counts {
		for unit := -1; unit <= 6; unit++ {
			want := api.OK
			switch {
			case unit < 1 || unit > 4:
				want = api.ErrKind
			case n < 1 || n > api.MaxTerm:
				want = api.ErrRange
			}
			wantCheck(t, api.Term{Unit: unit, N: n}, want)
		}
		for _, unit := range extremes {
			wantCheck(t, api.Term{Unit: unit, N: n}, api.ErrKind)
		}
	}
}

func TestE1Units(t *testing.T) {
	start := number(2024, 3, 15)
	for k := range 40 {
		wantNth(t, start, day, k, start+k, api.OK)
		wantNth(t, start, api.Term{Unit: api.Days, N: 10}, k, start+10*k, api.OK)
		wantNth(t, start, week, k, start+7*k, api.OK)
		wantNth(t, start, api.Term{Unit: api.Weeks, N: 4}, k, start+28*k, api.OK)
		wantNth(t, start, month, k, number(2024, 3+k, 15), api.OK)
		wantNth(t, start, api.Term{Unit: api.Months, N: 7}, k, number(2024, 3+7*k, 15), api.OK)
		wantNth(t, start, year, k, number(2024+k, 3, 15), api.OK)
		wantNth(t, start, api.Term{Unit: api.Years, N: 3}, k, number(2024+3*k, 3, 15), api.OK)
	}
}

func TestE1DrawnTerms(t *testing.T) {
	r := rand.New(rand.NewSource(1))
	for range 100000 {
		start, x := drawn(r)
		k := r.Intn(api.MaxNth + 1)
		if r.Intn(2) == 0 {
			k = r.Intn(30)
		}
		if n := begin(start, x, k); n <= api.LastDay {
			wantNth(t, start, x, k, n, api.OK)
		} else {
			wantNth(t, start, x, k, 0, api.ErrOver)
		}
	}
}

func TestE1Over(t *testing.T) {
	wantNth(t, api.LastDay, day, 0, api.LastDay, api.OK)
	wantNth(t, api.LastDay, year, 0, api.LastDay, api.OK)
	wantNth(t, api.LastDay-1, day, 1, api.LastDay, api.OK)
	wantNth(t, api.LastDay, day, 1, 0, api.ErrOver)
	wantNth(t, api.LastDay-7, week, 1, api.LastDay, api.OK)
	wantNth(t, api.LastDay-6, week, 1, 0, api.ErrOver)
	wantNth(t, number(9999, 11, 30), month, 1, number(9999, 12, 30), api.OK)
	wantNth(t, number(9999, 11, 30), month, 2, 0, api.ErrOver)
	wantNth(t, number(9999, 12, 1), month, 1, 0, api.ErrOver)
	wantNth(t, number(9998, 12, 31), year, 1, api.LastDay, api.OK)
	wantNth(t, number(9999, 1, 1), year, 1, 0, api.ErrOver)
	wantNth(t, 1, api.Term{Unit: api.Years, N: 101}, 98, number(9899, 1, 1), api.OK)
	wantNth(t, 1, api.Term{Unit: api.Years, N: 101}, 99, 0, api.ErrOver)
	for unit := api.Weeks; unit <= api.Years; unit++ {
		wantNth(t, api.LastDay-800000, api.Term{Unit: unit, N: api.MaxTerm}, api.MaxNth, 0, api.ErrOver)
	}
	wantNth(t, 1, api.Term{Unit: api.Days, N: api.MaxTerm}, api.MaxNth, 120001, api.OK)
	wantNth(t, 1, api.Term{Unit: api.Weeks, N: api.MaxTerm}, api.MaxNth, 840001, api.OK)
	wantNth(t, 1, api.Term{Unit: api.Months, N: 119}, api.MaxNth, number(9917, 9, 1), api.OK)
}

// TestE1Wrong: a day or a number that is none tells ahead of what would run over.
func TestE1Wrong(t *testing.T) {
	for _, x := range []api.Term{day, week, month, year, {Unit: api.Years, N: api.MaxTerm}} {
		for _, n := range noDays {
			wantNth(t, n, x, 0, 0, api.ErrRange)
			wantNth(t, n, x, 3, 0, api.ErrRange)
			wantNth(t, n, x, -1, 0, api.ErrRange)
		}
		for _, k := range append([]int{-1, api.MaxNth + 1}, extremes...) {
			wantNth(t, 1, x, k, 0, api.ErrRange)
			wantNth(t, api.LastDay, x, k, 0, api.ErrRange)
		}
	}
}

// TestE1CheckTellsFirst: whatever else is wrong.
func TestE1CheckTellsFirst(t *testing.T) {
	for _, x := range noTerms {
		e := term.Check(x)
		if e == api.OK {
			t.Fatalf("Check(%v) is OK", x)
		}
		for _, n := range append([]int{1, 700000, api.LastDay}, noDays...) {
			for _, k := range []int{-1, 0, 1, 64, 65, 1001, math.MaxInt} {
				wantNth(t, n, x, k, 0, e)
				wantFind(t, n, x, k, 0, e)
				wantFind(t, n, x, 1, 0, e)
				wantFull(t, n, x, k, nil, e)
			}
		}
	}
}

// TestE2FromTheStartAlone: a short month does not shorten those behind it.
func TestE2FromTheStartAlone(t *testing.T) {
	start := number(2023, 1, 31)
	for k, d := range []int{31, 28, 31, 30, 31, 30, 31, 31, 30, 31, 30, 31, 31, 29, 31} {
		wantNth(t, start, month, k, number(2023, 1+k, d), api.OK)
	}
	leap := number(2096, 2, 29)
	for k, d := range []int{29, 28, 28, 28, 28, 28, 28, 28, 29} {
		wantNth(t, leap, year, k, number(2096+k, 2, d), api.OK)
	}
	wantNth(t, leap, api.Term{Unit: api.Months, N: 12}, 8, number(2104, 2, 29), api.OK)
	wantNth(t, number(2024, 8, 30), api.Term{Unit: api.Months, N: 6}, 1, number(2025, 2, 28), api.OK)
	wantNth(t, number(2024, 8, 30), api.Term{Unit: api.Months, N: 6}, 2, number(2025, 8, 30), api.OK)
}

// found: the term of a day, searched one by one.
func found(start int, x api.Term, n int) (int, api.Errno) {
	for k := range api.MaxNth + 1 {
		if n < begin(start, x, k+1) {
			return k, api.OK
		}
	}
	return 0, api.ErrMany
}

func TestE2FindOfDrawnTerms(t *testing.T) {
	r := rand.New(rand.NewSource(2))
	for range 6000 {
		start, x := drawn(r)
		n := start + r.Intn(api.LastDay-start+1)
		if r.Intn(2) == 0 {
			n = min(start+r.Intn(1500), api.LastDay)
		}
		k, e := found(start, x, n)
		wantFind(t, start, x, n, k, e)
	}
}

// TestE2FindAtEdges: both days at the begin of each term.
func TestE2FindAtEdges(t *testing.T) {
	for _, start := range []int{1, number(2024, 1, 31), number(2024, 2, 29), number(1999, 12, 30)} {
		for _, x := range []api.Term{day, week, month, year, {Unit: api.Months, N: 5}, {Unit: api.Days, N: 30}} {
			for k := range api.MaxNth + 1 {
				wantFind(t, start, x, begin(start, x, k), k, api.OK)
				wantFind(t, start, x, begin(start, x, k+1)-1, k, api.OK)
			}
			wantFind(t, start, x, begin(start, x, api.MaxNth+1), 0, api.ErrMany)
			wantFind(t, start, x, api.LastDay, 0, api.ErrMany)
		}
	}
}

// TestE2FindAtTheEnd: the last day lies in a term, though no other one begins behind it.
func TestE2FindAtTheEnd(t *testing.T) {
	for _, x := range []api.Term{week, month, year, {Unit: api.Years, N: api.MaxTerm}, {Unit: api.Weeks, N: 2}} {
		wantFind(t, api.LastDay, x, api.LastDay, 0, api.OK)
		wantFind(t, api.LastDay-3, x, api.LastDay, 0, api.OK)
	}
	wantFind(t, api.LastDay-7, week, api.LastDay, 1, api.OK)
	wantFind(t, api.LastDay-3, day, api.LastDay, 3, api.OK)
	wantFind(t, api.LastDay-api.MaxNth, day, api.LastDay, api.MaxNth, api.OK)
	wantFind(t, api.LastDay-api.MaxNth-1, day, api.LastDay, 0, api.ErrMany)
	wantFind(t, 1, api.Term{Unit: api.Years, N: api.MaxTerm}, api.LastDay, 83, api.OK)
}

func TestE2FindWrong(t *testing.T) {
	for _, x := range []api.Term{day, month, {Unit: api.Years, N: api.MaxTerm}} {
		for _, n := range noDays {
			wantFind(t, n, x, 700000, 0, api.ErrRange)
			wantFind(t, 700000, x, n, 0, api.ErrRange)
			wantFind(t, n, x, n, 0, api.ErrRange)
		}
		wantFind(t, 700000, x, 699999, 0, api.ErrState)
		wantFind(t, 700000, x, 1, 0, api.ErrState)
		wantFind(t, api.LastDay, x, api.LastDay-1, 0, api.ErrState)
		wantFind(t, 700000, x, 700000, 0, api.OK)
	}
}

// fullOf terms by the library's calendar.
func fullOf(start int, x api.Term, many int) ([]api.Span, api.Errno) {
	var out []api.Span
	for k := range many {
		s := api.Span{From: begin(start, x, k), To: begin(start, x, k+1)}
		if s.To > api.LastDay {
			return nil, api.ErrOver
		}
		out = append(out, s)
	}
	return out, api.OK
}

func TestE2FullOfDrawnTerms(t *testing.T) {
	r := rand.New(rand.NewSource(3))
	for range 10000 {
		start, x := drawn(r)
		many := r.Intn(api.MaxSpans + 1)
		if r.Intn(2) == 0 {
			many = r.Intn(4)
		}
		l, e := fullOf(start, x, many)
		wantFull(t, start, x, many, l, e)
	}
}

func TestE2FullEdges(t *testing.T) {
	wantFull(t, number(2024, 1, 31), month, 2, []api.Span{{From: number(2024, 1, 31), To: number(2024, 2, 29)}, {From: number(2024, 2, 29), To: number(2024, 3, 31)}}, api.OK)
	for _, x := range []api.Term{day, week, month, year} {
		wantFull(t, api.LastDay, x, 0, nil, api.OK)
		wantFull(t, api.LastDay, x, 1, nil, api.ErrOver)
		l, _ := fullOf(1, x, api.MaxSpans)
		wantFull(t, 1, x, api.MaxSpans, l, api.OK)
	}
	wantFull(t, api.LastDay-1, day, 1, []api.Span{{From: api.LastDay - 1, To: api.LastDay}}, api.OK)
	wantFull(t, api.LastDay-1, day, 2, nil, api.ErrOver)
	l, _ := fullOf(api.LastDay-api.MaxSpans, day, api.MaxSpans)
	wantFull(t, api.LastDay-api.MaxSpans, day, api.MaxSpans, l, api.OK)
	wantFull(t, api.LastDay-api.MaxSpans+1, day, api.MaxSpans, nil, api.ErrOver)
}

func TestE2FullWrong(t *testing.T) {
	for _, x := range []api.Term{day, month, {Unit: api.Years, N: api.MaxTerm}} {
		for _, n := range noDays {
			wantFull(t, n, x, 0, nil, api.ErrRange)
			wantFull(t, n, x, 1, nil, api.ErrRange)
		}
		for _, many := range append([]int{-1, api.MaxSpans + 1}, extremes...) {
			wantFull(t, 1, x, many, nil, api.ErrRange)
			wantFull(t, api.LastDay, x, many, nil, api.ErrRange)
		}
	}
}

// TestE3EachDayInOneTerm: terms are one span together, each day found in the one that has it.
func TestE3EachDayInOneTerm(t *testing.T) {
	for _, start := range []int{1, number(2024, 1, 31), number(2023, 12, 29), number(2096, 2, 29)} {
		for _, x := range []api.Term{day, week, month, {Unit: api.Months, N: 3}, {Unit: api.Days, N: 11}} {
			l, _ := term.Full(start, x, 30)
			if len(l) != 30 || l[0].From != start {
				t.Fatalf("Full(%d, %v, 30): %v", start, x, l)
			}
			if all, err := spans.Of(l); !slices.Equal(all, []api.Span{{From: start, To: l[29].To}}) || err != api.OK {
				t.Errorf("all days of Full(%d, %v, 30): %v %d", start, x, all, err)
			}
			for k, s := range l {
				wantNth(t, start, x, k, s.From, api.OK)
				for n := s.From; n < s.To; n++ {
					wantFind(t, start, x, n, k, api.OK)
				}
			}
		}
	}
}

// told: all answers of one day and one term.
func told(start int, x api.Term) string {
	n, e1 := term.Nth(start, x, start%1002)
	k, e2 := term.Find(start, x, start+start%4001)
	l, e3 := term.Full(start, x, start%66)
	return fmt.Sprint(term.Check(x), n, e1, k, e2, l, e3)
}

// TestP2AnswersAreTheCallers: what is done to one is not seen in another.
func TestP2AnswersAreTheCallers(t *testing.T) {
	first := told(738916, month)
	l, _ := term.Full(738916, month, 60)
	clear(l[:cap(l)])
	if again := told(738916, month); again != first {
		t.Errorf("%s, and it was %s", again, first)
	}
}

// TestP3NothingIsKept: asked backward and by many at once, the answers are the same.
func TestP3NothingIsKept(t *testing.T) {
	r := rand.New(rand.NewSource(4))
	days, terms, first := make([]int, 200), make([]api.Term, 200), make([]string, 200)
	for i := range days {
		days[i], terms[i] = drawn(r)
		first[i] = told(days[i], terms[i])
	}
	var all sync.WaitGroup
	for range 4 {
		all.Go(func() {
			for i := len(days) - 1; i >= 0; i-- {
				if again := told(days[i], terms[i]); again != first[i] {
					t.Errorf("%s, and it was %s", again, first[i])
				}
			}
		})
	}
	all.Wait()
}
