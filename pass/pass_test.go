package pass_test

import (
	"fmt"
	"math"
	"math/rand"
	"slices"
	"sync"
	"testing"
	"time"

	"swinggate/api"
	"swinggate/pass"
)

var (
	extremes = []int{math.MinInt, math.MinInt + 1, math.MinInt32, -api.MaxDay - 1, api.MaxDay + 1, math.MaxInt32, math.MaxInt - 1, math.MaxInt}
	noDays   = append([]int{0, -1, api.LastDay + 1}, extremes...)

	day   = api.Term{Unit: api.Days, N: 1}
	week  = api.Term{Unit: api.Weeks, N: 1}
	month = api.Term{Unit: api.Months, N: 1}
	year  = api.Term{Unit: api.Years, N: 1}

	noUnits  = []api.Term{{}, {Unit: 5, N: 1}, {Unit: -1, N: 1}, {N: 1}, {Unit: math.MaxInt, N: 1}, {Unit: math.MinInt, N: -1}}
	noLength = []api.Term{{Unit: api.Days}, {Unit: api.Years, N: api.MaxTerm + 1}, {Unit: api.Weeks, N: -1}, {Unit: api.Months, N: math.MaxInt}}
)

// number and moment of a day go by the library's calendar, so that they lean on no package of the project.
func number(y, m, d int) int {
	at := time.Date(y, time.Month(m), d, 0, 0, 0, 0, time.UTC)
	return int((at.Unix()-moment(1).Unix())/86400) + 1
}

func moment(n int) time.Time { return time.Date(1, 1, n, 0, 0, 0, 0, time.UTC) }

// behind a day, by a term, by the library's calendar, however late it is.
func behind(n int, t api.Term) int {
	many := t.N
	switch t.Unit {
	case api.Days:
		return n + many
	case api.Weeks:
		return n + 7*many
	case api.Years:
		many *= 12
	}
	at := moment(n)
	m := int(at.Month()) + many
	return min(number(at.Year(), m, at.Day()), number(at.Year(), m+1, 0))
}

// set of days, From and To by turns.
func set(numbers ...int) []api.Span {
	var out []api.Span
	for i := 0; i+1 < len(numbers); i += 2 {
		out = append(out, api.Span{From: numbers[i], To: numbers[i+1]})
	}
	return out
}

// full: as many spans as a set may have, of a day each, from day 1 on, every other day.
func full() []api.Span {
	var out []api.Span
	for i := range api.MaxSpans {
		out = append(out, api.Span{From: 2*i + 1, To: 2*i + 2})
	}
	return out
}

// of zones 1 to 3 and serial 2.
func of(days ...int) api.Pass {
	return api.Pass{Id: 7, Born: 5, A: 1, B: 3, Serial: 2, Days: set(days...)}
}

func with(p api.Pass, days []api.Span) api.Pass {
	p.Days = days
	return p
}

func same(p, q api.Pass) bool {
	return p.Id == q.Id && p.Born == q.Born && p.A == q.A && p.B == q.B && p.Serial == q.Serial && slices.Equal(p.Days, q.Days)
}

func isNothing(p api.Pass) bool { return same(p, api.Pass{}) }

func deep(p api.Pass) api.Pass { return with(p, slices.Clone(p.Days)) }

func rightPasses() []api.Pass {
	return []api.Pass{
		of(), of(100, 107), of(100, 107, 110, 120), of(1, 2), of(1, api.LastDay), of(api.LastDay-1, api.LastDay), of(1, 2, api.LastDay-1, api.LastDay),
		{Id: 1, Born: 1, Serial: 1}, {Id: api.MaxPass, Born: api.LastDay, A: api.MaxZones - 1, B: api.MaxZones - 1, Serial: api.MaxSerial},
		{Id: 1, Born: 5, B: api.MaxZones - 1, Serial: 1, Days: full()}, {Id: 1, Born: 5, Serial: 1, Days: []api.Span{}},
	}
}

// wrongNumbers of a pass, whatever its days.
func wrongNumbers() []api.Pass {
	var out []api.Pass
	put := func(change func(p *api.Pass)) {
		p := of()
		change(&p)
		out = append(out, p)
	}
	for _, n := range append([]int{0, -1, api.MaxPass + 1}, extremes...) {
		put(func(p *api.Pass) { p.Id = n })
	}
	for _, n := range noDays {
		put(func(p *api.Pass) { p.Born = n })
	}
	for _, n := range append([]int{-1, api.MaxZones}, extremes...) {
		put(func(p *api.Pass) { p.A = n })
		put(func(p *api.Pass) { p.B = n })
		put(func(p *api.Pass) { p.A, p.B = n, n })
	}
	put(func(p *api.Pass) { p.A, p.B = 3, 2 })
	put(func(p *api.Pass) { p.A, p.B = api.MaxZones-1, 0 })
	for _, n := range append([]int{0, -1, api.MaxSerial + 1}, extremes...) {
		put(func(p *api.Pass) { p.Serial = n })
	}
	return append(out, api.Pass{})
}

// wrongDays of a pass, each with what Check answers of it.
func wrongDays() map[api.Errno][][]api.Span {
	out := map[api.Errno][][]api.Span{
		// How many spans there are tells first, then span by span, and last the days that there are.
		api.ErrMany: {make([]api.Span, api.MaxSpans+1), append(full(), set(999, 1001)...), append(full(), set(0, 0)...), append(set(0, 1), full()...)},
		api.ErrForm: {
			set(5, 5), set(5, 4), set(100, 107, 110, 110), set(0, 0), set(0, 5, 9, 9), set(5, 5, 5, api.LastDay+1), set(api.LastDay+5, api.LastDay+5),
			make([]api.Span, api.MaxSpans), set(5, 5, 4, 9), set(5, 4, math.MinInt, 7),
		},
		api.ErrState: {set(5, 9, 9, 12), set(5, 9, 7, 12), set(5, 9, 1, 3), set(5, 9, 5, 9), set(0, 5, 5, 9), set(5, 9, 9, api.LastDay+1), set(5, 9, 2, 3, 4, 4)},
		api.ErrRange: {
			set(0, 5), set(-5, 5), set(-5, -3), set(-5, -3, 4, 9), set(5, api.LastDay+1), set(api.LastDay, api.LastDay+1), set(api.LastDay+1, api.LastDay+2),
			set(5, 9, 11, api.LastDay+1), set(-api.MaxDay, api.MaxDay), set(0, api.LastDay), set(1, api.LastDay+1), set(0, 1),
		},
	}
	for _, n := range []int{math.MinInt, -api.MaxDay - 1, api.MaxDay + 1, math.MaxInt} {
		out[api.ErrRange] = append(out[api.ErrRange], set(n, 5), set(5, n), set(5, 9, n, 12), set(5, 9, 11, n), set(n, n), set(5, 9, 9, n), set(n, 5, 3, 3))
		out[api.ErrForm] = append(out[api.ErrForm], set(5, 5, n, 9))
		out[api.ErrState] = append(out[api.ErrState], set(5, 9, 9, 12, 4, n))
	}
	return out
}

// wrongPasses, each with what Check answers of it.
func wrongPasses() map[api.Errno][]api.Pass {
	out := map[api.Errno][]api.Pass{api.ErrRange: wrongNumbers()}
	for e, all := range wrongDays() {
		for _, l := range all {
			out[e] = append(out[e], with(of(), l))
			// The numbers tell ahead of the days.
			for _, p := range wrongNumbers() {
				out[api.ErrRange] = append(out[api.ErrRange], with(p, l))
			}
		}
	}
	return out
}

// short: what is shown of a pass.
func short(p api.Pass) string {
	return fmt.Sprintf("%v (%d spans)", with(p, p.Days[:min(len(p.Days), 4)]), len(p.Days))
}

func wantCheck(t *testing.T, p api.Pass, e api.Errno) {
	t.Helper()
	if err := pass.Check(p); err != e {
		t.Errorf("Check(%s): %d, and must be %d", short(p), err, e)
	}
}

func wantNew(t *testing.T, id, born, a, b, start int, x api.Term, want api.Pass, e api.Errno) {
	t.Helper()
	if got, err := pass.New(id, born, a, b, start, x); !same(got, want) || err != e {
		t.Errorf("New(%d, %d, %d, %d, %d, %v): %s %d, and must be %s %d", id, born, a, b, start, x, short(got), err, short(want), e)
	}
}

func wantRenew(t *testing.T, p api.Pass, n int, x api.Term, want api.Pass, many int, e api.Errno) {
	t.Helper()
	if got, more, err := pass.Renew(p, n, x); !same(got, want) || more != many || err != e {
		t.Errorf("Renew(%s, %d, %v): %s %d %d, and must be %s %d %d", short(p), n, x, short(got), more, err, short(want), many, e)
	}
}

func wantCut(t *testing.T, p api.Pass, n int, want api.Pass, many int, e api.Errno) {
	t.Helper()
	if got, less, err := pass.Cut(p, n); !same(got, want) || less != many || err != e {
		t.Errorf("Cut(%s, %d): %s %d %d, and must be %s %d %d", short(p), n, short(got), less, err, short(want), many, e)
	}
}

func wantReplace(t *testing.T, p, want api.Pass, e api.Errno) {
	t.Helper()
	if got, err := pass.Replace(p); !same(got, want) || err != e {
		t.Errorf("Replace(%s): %s %d, and must be %s %d", short(p), short(got), err, short(want), e)
	}
}

func wantHas(t *testing.T, p api.Pass, n, zone int, want bool, e api.Errno) {
	t.Helper()
	if got, err := pass.Has(p, n, zone); got != want || err != e {
		t.Errorf("Has(%s, %d, %d): %v %d, and must be %v %d", short(p), n, zone, got, err, want, e)
	}
}

func TestR1Right(t *testing.T) {
	for _, p := range rightPasses() {
		wantCheck(t, p, api.OK)
	}
	for a := range api.MaxZones {
		for b := range api.MaxZones {
			p := of(100, 107)
			p.A, p.B = a, b
			if a <= b {
				wantCheck(t, p, api.OK)
			} else {
				wantCheck(t, p, api.ErrRange)
			}
		}
	}
}

func TestR1Wrong(t *testing.T) {
	for e, all := range wrongPasses() {
		for _, p := range all {
			wantCheck(t, p, e)
		}
	}
}

func TestR2New(t *testing.T) {
	start := number(2024, 1, 31)
	for _, x := range []api.Term{day, week, month, year, {Unit: api.Days, N: api.MaxTerm}, {Unit: api.Years, N: api.MaxTerm}} {
		want := api.Pass{Id: 7, Born: 5, A: 1, B: 3, Serial: 1, Days: set(start, behind(start, x))}
		wantNew(t, 7, 5, 1, 3, start, x, want, api.OK)
	}
	wantNew(t, 7, 5, 1, 3, start, month, api.Pass{Id: 7, Born: 5, A: 1, B: 3, Serial: 1, Days: set(start, number(2024, 2, 29))}, api.OK)
	wantNew(t, 1, 1, 0, 0, 1, day, api.Pass{Id: 1, Born: 1, Serial: 1, Days: set(1, 2)}, api.OK)
	// A pass is not asked whether its holder is born.
	wantNew(t, api.MaxPass, api.LastDay, 0, 5, 1, week, api.Pass{Id: api.MaxPass, Born: api.LastDay, B: 5, Serial: 1, Days: set(1, 8)}, api.OK)
	wantNew(t, 7, 5, 1, 3, api.LastDay-7, week, api.Pass{Id: 7, Born: 5, A: 1, B: 3, Serial: 1, Days: set(api.LastDay-7, api.LastDay)}, api.OK)
}

// TestR2NewWrong: the term tells ahead of what the pass is.
func TestR2NewWrong(t *testing.T) {
	for _, p := range wrongNumbers() {
		if p.Serial != of().Serial {
			continue
		}
		wantNew(t, p.Id, p.Born, p.A, p.B, 700000, week, api.Pass{}, api.ErrRange)
		wantNew(t, p.Id, p.Born, p.A, p.B, api.LastDay, week, api.Pass{}, api.ErrOver)
		wantNew(t, p.Id, p.Born, p.A, p.B, 0, api.Term{}, api.Pass{}, api.ErrKind)
	}
	for _, start := range append([]int{1, 700000, api.LastDay}, noDays...) {
		for _, x := range noUnits {
			wantNew(t, 7, 5, 1, 3, start, x, api.Pass{}, api.ErrKind)
		}
		for _, x := range noLength {
			wantNew(t, 7, 5, 1, 3, start, x, api.Pass{}, api.ErrRange)
		}
	}
	for _, start := range noDays {
		wantNew(t, 7, 5, 1, 3, start, week, api.Pass{}, api.ErrRange)
	}
	for _, start := range []int{api.LastDay - 6, api.LastDay} {
		wantNew(t, 7, 5, 1, 3, start, week, api.Pass{}, api.ErrOver)
	}
	wantNew(t, 7, 5, 1, 3, number(9999, 1, 1), year, api.Pass{}, api.ErrOver)
}

func TestR2Renew(t *testing.T) {
	p := of(100, 107)
	// In time, on the last day, on the day behind it: without a gap.
	for _, n := range []int{1, 99, 100, 105, 106, 107} {
		wantRenew(t, p, n, week, of(100, 114), 7, api.OK)
	}
	for _, n := range []int{108, 109, 115, 200} {
		wantRenew(t, p, n, week, of(100, 107, n, n+7), 7, api.OK)
		wantRenew(t, of(), n, week, of(n, n+7), 7, api.OK)
		wantRenew(t, with(of(), []api.Span{}), n, week, of(n, n+7), 7, api.OK)
	}
	// From the end of all days on, whatever gap there is ahead of it.
	for _, n := range []int{1, 100, 107, 108, 110, 119, 120} {
		wantRenew(t, of(100, 107, 110, 120), n, day, of(100, 107, 110, 121), 1, api.OK)
	}
	wantRenew(t, of(100, 107, 110, 120), 121, day, of(100, 107, 110, 120, 121, 122), 1, api.OK)
	// How many days a term has hangs on where it begins.
	start := number(2024, 1, 31)
	wantRenew(t, of(), start, month, of(start, number(2024, 2, 29)), 29, api.OK)
	wantRenew(t, of(start-1, start), 1, month, of(start-1, number(2024, 2, 29)), 29, api.OK)
	wantRenew(t, of(number(2023, 2, 1), number(2023, 3, 1)), number(2024, 3, 1), month, of(number(2023, 2, 1), number(2023, 3, 1), number(2024, 3, 1), number(2024, 4, 1)), 31, api.OK)
	wantRenew(t, of(1, api.LastDay-1), 1, day, of(1, api.LastDay), 1, api.OK)
	for _, q := range rightPasses()[7:9] {
		wantRenew(t, q, 50, week, with(q, set(50, 57)), 7, api.OK)
	}
}

func TestR2RenewMany(t *testing.T) {
	p := with(of(), full())
	last := full()[api.MaxSpans-1].To
	longer := full()
	longer[api.MaxSpans-1].To += 7
	for _, n := range []int{1, last - 1, last} {
		wantRenew(t, p, n, week, with(p, longer), 7, api.OK)
	}
	for _, n := range []int{last + 1, last + 500} {
		wantRenew(t, p, n, week, api.Pass{}, 0, api.ErrMany)
		wantRenew(t, with(p, full()[:api.MaxSpans-1]), n, week, with(p, append(full()[:api.MaxSpans-1], api.Span{From: n, To: n + 7})), 7, api.OK)
	}
	// The term tells ahead of what the pass would be.
	wantRenew(t, p, api.LastDay, week, api.Pass{}, 0, api.ErrOver)
	wantRenew(t, p, last+1, api.Term{}, api.Pass{}, 0, api.ErrKind)
}

// TestR2RenewWrong: the pass tells first, then the day, then the term.
func TestR2RenewWrong(t *testing.T) {
	for e, all := range wrongPasses() {
		for _, p := range all {
			wantRenew(t, p, 100, week, api.Pass{}, 0, e)
			wantRenew(t, p, 0, api.Term{}, api.Pass{}, 0, e)
		}
	}
	for _, p := range rightPasses() {
		for _, n := range noDays {
			wantRenew(t, p, n, week, api.Pass{}, 0, api.ErrRange)
			wantRenew(t, p, n, api.Term{}, api.Pass{}, 0, api.ErrRange)
		}
		for _, x := range noUnits {
			wantRenew(t, p, 100, x, api.Pass{}, 0, api.ErrKind)
			wantRenew(t, p, api.LastDay, x, api.Pass{}, 0, api.ErrKind)
		}
		for _, x := range noLength {
			wantRenew(t, p, 100, x, api.Pass{}, 0, api.ErrRange)
			wantRenew(t, p, api.LastDay, x, api.Pass{}, 0, api.ErrRange)
		}
		wantRenew(t, p, api.LastDay, day, api.Pass{}, 0, api.ErrOver)
	}
	wantRenew(t, of(1, api.LastDay), 1, day, api.Pass{}, 0, api.ErrOver)
	wantRenew(t, of(1, api.LastDay-6), 1, week, api.Pass{}, 0, api.ErrOver)
	wantRenew(t, of(1, api.LastDay-7), 1, week, of(1, api.LastDay), 7, api.OK)
}

func TestR3Cut(t *testing.T) {
	p := of(100, 107, 110, 120)
	for n, want := range map[int]api.Pass{
		1: of(), 99: of(), 100: of(), 101: of(100, 101), 106: of(100, 106), 107: of(100, 107), 108: of(100, 107), 110: of(100, 107),
		111: of(100, 107, 110, 111), 119: of(100, 107, 110, 119), 120: p, 121: p, api.LastDay: p,
	} {
		left := 0
		for _, s := range want.Days {
			left += s.To - s.From
		}
		wantCut(t, p, n, want, 17-left, api.OK)
		wantCut(t, of(), n, of(), 0, api.OK)
	}
	wantCut(t, of(1, api.LastDay), 1, of(), api.LastDay-1, api.OK)
	wantCut(t, of(1, api.LastDay), api.LastDay-1, of(1, api.LastDay-1), 1, api.OK)
	wantCut(t, of(1, api.LastDay), api.LastDay, of(1, api.LastDay), 0, api.OK)
	for i := range api.MaxSpans {
		wantCut(t, with(of(), full()), 2*i+1, with(of(), full()[:i]), api.MaxSpans-i, api.OK)
		wantCut(t, with(of(), full()), 2*i+2, with(of(), full()[:i+1]), api.MaxSpans-i-1, api.OK)
	}
}

func TestR3CutWrong(t *testing.T) {
	for e, all := range wrongPasses() {
		for _, p := range all {
			wantCut(t, p, 100, api.Pass{}, 0, e)
			wantCut(t, p, 0, api.Pass{}, 0, e)
		}
	}
	for _, p := range rightPasses() {
		for _, n := range noDays {
			wantCut(t, p, n, api.Pass{}, 0, api.ErrRange)
		}
	}
}

func TestR3Replace(t *testing.T) {
	for _, p := range rightPasses() {
		for _, serial := range []int{1, 2, 500, api.MaxSerial - 1} {
			p.Serial = serial
			want := p
			want.Serial++
			wantReplace(t, p, want, api.OK)
		}
		p.Serial = api.MaxSerial
		wantReplace(t, p, api.Pass{}, api.ErrMany)
	}
	for e, all := range wrongPasses() {
		for _, p := range all {
			wantReplace(t, p, api.Pass{}, e)
			if p.Serial == of().Serial {
				p.Serial = api.MaxSerial
				wantReplace(t, p, api.Pass{}, e)
			}
		}
	}
}

func TestR3Has(t *testing.T) {
	p := of(100, 107, 110, 120)
	for n := 95; n < 125; n++ {
		isDay := 100 <= n && n < 107 || 110 <= n && n < 120
		for zone := -1; zone <= api.MaxZones; zone++ {
			wantHas(t, p, n, zone, isDay && 1 <= zone && zone <= 3, api.OK)
			wantHas(t, of(), n, zone, false, api.OK)
		}
	}
	q := api.Pass{Id: 1, Born: 5, A: 4, B: 4, Serial: 1, Days: set(1, api.LastDay)}
	for zone := range api.MaxZones {
		for n, is := range map[int]bool{0: false, 1: true, 700000: true, api.LastDay - 1: true, api.LastDay: false} {
			wantHas(t, q, n, zone, is && zone == 4, api.OK)
		}
	}
	// Any day and any zone may be asked of, also one that is none.
	for _, n := range append(noDays, extremes...) {
		wantHas(t, q, n, 4, false, api.OK)
		wantHas(t, q, 700000, n, false, api.OK)
		wantHas(t, q, n, n, false, api.OK)
	}
}

func TestR3HasWrong(t *testing.T) {
	for e, all := range wrongPasses() {
		for _, p := range all {
			for _, n := range []int{0, 5, 100, math.MaxInt} {
				wantHas(t, p, n, 2, false, e)
				wantHas(t, p, n, -1, false, e)
			}
		}
	}
}

// days of a drawn pass lie ahead of this one.
const horizon = 2500

// plain days of a pass: one by one.
type plain [horizon]bool

func plainOf(p api.Pass) plain {
	var out plain
	for _, s := range p.Days {
		for n := s.From; n < s.To; n++ {
			out[n] = true
		}
	}
	return out
}

// spansOf plain days, in their one form.
func spansOf(days plain) []api.Span {
	var out []api.Span
	for n := 1; n < horizon; n++ {
		switch {
		case days[n] && !days[n-1]:
			out = append(out, api.Span{From: n, To: n + 1})
		case days[n]:
			out[len(out)-1].To++
		}
	}
	return out
}

func drawn(r *rand.Rand) api.Pass {
	a := r.Intn(api.MaxZones)
	p := api.Pass{Id: 1 + r.Intn(api.MaxPass), Born: 1 + r.Intn(api.LastDay), A: a, B: a + r.Intn(api.MaxZones-a), Serial: 1 + r.Intn(api.MaxSerial)}
	n := 1 + r.Intn(200)
	for range r.Intn(8) {
		to := n + 1 + r.Intn(30)
		p.Days = append(p.Days, api.Span{From: n, To: to})
		n = to + 1 + r.Intn(30)
	}
	return p
}

func drawnTerm(r *rand.Rand) api.Term {
	return []api.Term{{Unit: api.Days, N: 1 + r.Intn(40)}, {Unit: api.Weeks, N: 1 + r.Intn(5)}, {Unit: api.Months, N: 1 + r.Intn(12)}, year}[r.Intn(4)]
}

// TestR2AnyCalls: passes that are renewed, cut and replaced, by turns, held against days that are kept one by one.
func TestR2AnyCalls(t *testing.T) {
	r := rand.New(rand.NewSource(1))
	for range 3000 {
		p := drawn(r)
		days, last := plainOf(p), 0
		for _, s := range p.Days {
			last = s.To
		}
		n := 1 + r.Intn(700)
		for range 3 {
			switch x := drawnTerm(r); r.Intn(3) {
			case 0:
				from := max(n, last)
				last = behind(from, x)
				for k := from; k < last; k++ {
					days[k] = true
				}
				q := with(p, spansOf(days))
				wantRenew(t, p, n, x, q, last-from, api.OK)
				p = q
			case 1:
				many := 0
				last = 0
				for k := range days {
					if days[k] && k >= n {
						days[k] = false
						many++
					}
					if days[k] {
						last = k + 1
					}
				}
				q := with(p, spansOf(days))
				wantCut(t, p, n, q, many, api.OK)
				p = q
			default:
				p.Serial = 1 + r.Intn(api.MaxSerial-1)
				q := p
				q.Serial++
				wantReplace(t, p, q, api.OK)
				p = q
			}
			k, zone := r.Intn(1500), r.Intn(api.MaxZones)
			wantHas(t, p, k, zone, days[k] && p.A <= zone && zone <= p.B, api.OK)
			wantCheck(t, p, api.OK)
		}
	}
}

// TestR4WithoutGap: who renews in time has days without a gap, as many as the terms have together.
func TestR4WithoutGap(t *testing.T) {
	r := rand.New(rand.NewSource(2))
	for range 1000 {
		start := 1 + r.Intn(700000)
		p, err := pass.New(7, 5, 1, 3, start, drawnTerm(r))
		if err != api.OK {
			t.Fatalf("New: %d", err)
		}
		all := p.Days[0].To - start
		for range 5 {
			end := p.Days[len(p.Days)-1].To
			q, more, err := pass.Renew(p, max(1, end-r.Intn(400)), drawnTerm(r))
			all += more
			if err != api.OK || more <= 0 || !slices.Equal(q.Days, set(start, start+all)) {
				t.Fatalf("Renew(%v): %v %d %d, and must be from %d on, %d days", p, q, more, err, start, all)
			}
			p = q
		}
		// What is cut off again, and renewed on that day, has no gap either.
		n := start + 1 + r.Intn(all)
		q, less, err := pass.Cut(p, n)
		if err != api.OK || less != start+all-n {
			t.Fatalf("Cut(%v, %d): %v %d %d", p, n, q, less, err)
		}
		wantRenew(t, q, n, week, with(p, set(start, n+7)), 7, api.OK)
	}
}

// told: all answers of a pass, a day and a term.
func told(p api.Pass, n int, x api.Term) string {
	a, e1 := pass.New(p.Id, p.Born, p.A, p.B, n, x)
	b, more, e2 := pass.Renew(p, n, x)
	c, less, e3 := pass.Cut(p, n)
	d, e4 := pass.Replace(p)
	has, e5 := pass.Has(p, n, 2)
	return fmt.Sprint(pass.Check(p), a, e1, b, more, e2, c, less, e3, d, e4, has, e5)
}

// TestP1AnyNumbers: no call panics, whatever it is handed, and with an error there is nothing else.
func TestP1AnyNumbers(t *testing.T) {
	r := rand.New(rand.NewSource(3))
	about := func(most int) int {
		if r.Intn(60) == 0 {
			return int(r.Uint64())
		}
		return r.Intn(most+4) - 2
	}
	for range 40000 {
		p := api.Pass{Id: about(100), Born: about(100), A: about(3), B: about(6), Serial: about(api.MaxSerial)}
		for range r.Intn(4) {
			p.Days = append(p.Days, api.Span{From: about(50), To: about(150)})
		}
		n, x := about(300), api.Term{Unit: about(4), N: about(api.MaxTerm)}
		if q, err := pass.New(p.Id, p.Born, p.A, p.B, n, x); isNothing(q) != (err != api.OK) {
			t.Errorf("New: %v %d", q, err)
		}
		if q, more, err := pass.Renew(p, n, x); isNothing(q) != (err != api.OK) || more != 0 && err != api.OK {
			t.Errorf("Renew(%v, %d, %v): %v %d %d", p, n, x, q, more, err)
		}
		if q, less, err := pass.Cut(p, n); isNothing(q) != (err != api.OK) || less != 0 && err != api.OK {
			t.Errorf("Cut(%v, %d): %v %d %d", p, n, q, less, err)
		}
		if q, err := pass.Replace(p); isNothing(q) != (err != api.OK) {
			t.Errorf("Replace(%v): %v %d", p, q, err)
		}
		if has, err := pass.Has(p, n, about(6)); has && err != api.OK {
			t.Errorf("Has(%v, %d): %v %d", p, n, has, err)
		}
	}
}

// TestP2OnlyRead: days and the spare room behind them are as they were.
func TestP2OnlyRead(t *testing.T) {
	room := set(100, 107, 110, 120, 130, 140, 140, 99, 0, 0)
	was := slices.Clone(room)
	for many := range len(room) + 1 {
		for _, n := range []int{0, 1, 99, 105, 107, 108, 115, 120, 121, 135, 200, api.LastDay} {
			first := told(with(of(), room[:many]), n, week)
			if !slices.Equal(room, was) {
				t.Fatalf("there is %v, and was %v", room, was)
			}
			if again := told(with(of(), room[:many]), n, week); again != first {
				t.Errorf("%s, and it was %s", again, first)
			}
		}
	}
}

// TestP2AnswersAreTheCallers: what is done to what came in is not seen in what came out, nor the other way round.
func TestP2AnswersAreTheCallers(t *testing.T) {
	calls := map[string]func(p api.Pass) (api.Pass, api.Errno){
		"New": func(p api.Pass) (api.Pass, api.Errno) { return pass.New(p.Id, p.Born, p.A, p.B, 100, week) },
		"Renew in time": func(p api.Pass) (api.Pass, api.Errno) {
			q, _, err := pass.Renew(p, 100, week)
			return q, err
		},
		"Renew late": func(p api.Pass) (api.Pass, api.Errno) {
			q, _, err := pass.Renew(p, 200, week)
			return q, err
		},
		"Cut some": func(p api.Pass) (api.Pass, api.Errno) {
			q, _, err := pass.Cut(p, 112)
			return q, err
		},
		"Cut none": func(p api.Pass) (api.Pass, api.Errno) {
			q, _, err := pass.Cut(p, 300)
			return q, err
		},
		"Replace": pass.Replace,
	}
	for name, call := range calls {
		room := set(100, 107, 110, 120, 130, 140)
		p := with(of(), room[:2])
		out, err := call(p)
		again, _ := call(p)
		was := deep(out)
		if err != api.OK || len(out.Days) == 0 {
			t.Fatalf("%s: %v %d", name, out, err)
		}
		clear(room)
		if !same(out, was) || !same(again, was) {
			t.Errorf("%s: it is %v and %v, and was %v", name, out, again, was)
		}
		room = append(room[:0], set(100, 107, 110, 120, 130, 140)...)
		clear(out.Days[:cap(out.Days)])
		if !same(again, was) || !slices.Equal(room, set(100, 107, 110, 120, 130, 140)) {
			t.Errorf("%s: there is %v and %v, and was %v", name, again, room, was)
		}
	}
}

// TestP3NothingIsKept: asked backward and by many at once, the answers are the same.
func TestP3NothingIsKept(t *testing.T) {
	r := rand.New(rand.NewSource(4))
	const count = 300
	asks := make([]func() string, count)
	first := make([]string, count)
	for i := range count {
		p, n, x := drawn(r), 1+r.Intn(700), drawnTerm(r)
		asks[i] = func() string { return told(p, n, x) }
		first[i] = asks[i]()
	}
	var all sync.WaitGroup
	for range 4 {
		all.Go(func() {
			for i := count - 1; i >= 0; i-- {
				if again := asks[i](); again != first[i] {
					t.Errorf("%s, and it was %s", again, first[i])
				}
			}
		})
	}
	all.Wait()
}
