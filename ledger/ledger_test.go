package ledger_test

import (
	"fmt"
	"math"
	"math/rand"
	"slices"
	"sync"
	"testing"

	"swinggate/api"
	"swinggate/ledger"
)

var extremes = []int{math.MinInt, math.MinInt + 1, -api.MaxPence - 1, api.MaxPence + 1, math.MaxInt - 1, math.MaxInt}

// lines by their numbers, account and pence by turns.
func lines(numbers ...int) []api.Line {
	var out []api.Line
	for i := 0; i+1 < len(numbers); i += 2 {
		out = append(out, api.Line{Account: numbers[i], Pence: numbers[i+1]})
	}
	return out
}

func posting(id int, numbers ...int) api.Posting {
	return api.Posting{Id: id, Lines: lines(numbers...)}
}

// alike: so many postings, of the Ids from 1 on, that move a penny.
func alike(many int) []api.Posting {
	var out []api.Posting
	for i := range many {
		out = append(out, posting(i+1, api.Cash, 1, api.Revenue, -1))
	}
	return out
}

// two postings: something is sold, and something else for a fee.
func two() []api.Posting {
	return []api.Posting{
		posting(1, api.Cash, 600, api.Revenue, -600),
		posting(2, api.Cash, 500, api.Revenue, -400, api.Fees, -100),
	}
}

// wrongPostings, each with what is told of it.
func wrongPostings() map[api.Errno][]api.Posting {
	out := map[api.Errno][]api.Posting{
		// The Id tells first.
		api.ErrRange: {
			posting(0, 1, 1, 2, -1), posting(-1, 1, 1, 2, -1), posting(math.MinInt, 1, 1, 2, -1), posting(0), posting(0, 1, 5),
			posting(0, 1, 1, 2, 1, 3, 1, 4, 1, 5, 1, 1, 1, 2, 1), posting(-3, 6, 5, 1, 1), posting(0, 1, 5, 2, -4),
			// Pence, ahead of an account that is twice there, and of what all are together.
			posting(3, 1, 0, 2, 0), posting(3, 1, 0, 2, 5), posting(3, 1, 5, 2, -5, 3, 0), posting(3, 1, 5, 1, 0),
			posting(3, 1, 0, 6, 5), posting(3, 1, api.MaxPence+1, 2, -api.MaxPence-1),
		},
		// How many lines there are tells ahead of what they are.
		api.ErrForm: {posting(3), posting(3, 1, 5), posting(3, 6, 5), posting(3, 1, 0), {Id: 3, Lines: []api.Line{}}, {Id: math.MaxInt}},
		api.ErrMany: {
			posting(3, 1, 1, 2, 1, 3, 1, 4, 1, 5, 1, 1, 1, 2, 1), posting(3, 1, 1, 2, 1, 3, 1, 4, 1, 5, 1, 1, 1, 2, -6),
			{Id: 3, Lines: make([]api.Line, api.MaxLines+1)}, {Id: 3, Lines: make([]api.Line, 100000)},
		},
		api.ErrKind: {
			posting(3, 6, 5, 1, -5), posting(3, 0, 5, 1, -5), posting(3, 1, 5, 6, -5), posting(3, 1, 5, 2, -5, -1, 3),
			// The account tells ahead of its pence, and the first line of which something is wrong ahead of others.
			posting(3, 6, 0, 1, -5), posting(3, 0, math.MaxInt, 1, 0), posting(3, 6, 5, 6, 5), posting(3, 1, 5, 7, 0, 1, 5),
			{Id: 3, Lines: make([]api.Line, api.MaxLines)},
		},
		api.ErrTwice: {
			posting(3, 1, 5, 1, -5), posting(3, 1, 5, 2, -3, 1, -2), posting(3, 5, 1, 1, 2, 2, 3, 3, 4, 4, 5, 5, -15),
			posting(3, 1, 5, 1, 5), posting(3, 1, 5, 1, 5, 6, 5), posting(3, 1, 5, 2, -10, 2, 5, 3, 0),
		},
		api.ErrState: {
			posting(3, 1, 5, 2, -4), posting(3, 1, 5, 2, 5), posting(3, 1, 1, 2, 1, 3, 1, 4, 1, 5, -5), posting(3, 4, 1, 5, -2),
			posting(3, 1, api.MaxPence, 2, 1), posting(3, 1, api.MaxPence, 2, api.MaxPence), posting(3, 1, -api.MaxPence, 2, -api.MaxPence, 3, -1),
		},
	}
	for _, n := range extremes {
		out[api.ErrRange] = append(out[api.ErrRange], posting(3, 1, n, 2, 5), posting(3, 1, 5, 2, n), posting(3, 1, 5, 1, n))
		out[api.ErrKind] = append(out[api.ErrKind], posting(3, n, 5, 1, -5), posting(3, 1, 5, n, -5))
	}
	return out
}

// rightPostings of Id 3.
func rightPostings() []api.Posting {
	return []api.Posting{
		posting(3, 1, 5, 2, -5), posting(3, 2, -5, 1, 5), posting(3, 4, 1, 5, -1), posting(3, 1, 2, 2, -1, 3, -1),
		posting(3, 1, api.MaxPence, 2, -api.MaxPence), posting(3, 5, -api.MaxPence, 4, api.MaxPence-1, 3, 1),
		posting(3, 1, 1, 2, 1, 3, 1, 4, 1, 5, -4),
		// What lies between may be no amount.
		posting(3, 1, api.MaxPence, 2, api.MaxPence, 3, -api.MaxPence, 4, -api.MaxPence),
	}
}

// wrongLedgers, each with what Check answers of it.
func wrongLedgers() map[api.Errno][][]api.Posting {
	out := map[api.Errno][][]api.Posting{
		// How many ahead of what they are.
		api.ErrMany:  {alike(api.MaxPostings + 1), make([]api.Posting, api.MaxPostings+1), append(alike(api.MaxPostings), alike(1)...)},
		api.ErrTwice: {append(two(), two()...), append(two(), two()[0]), append(two(), posting(2, 4, 1, 5, -1)), append(alike(99), alike(1)...)},
		// What is wrong with a posting is told ahead of its Id, and of those behind it.
		api.ErrForm:  {append(two(), posting(1), posting(0)), append(two(), posting(2, 1, 5)), book(posting(3, 1, 5), posting(0))},
		api.ErrRange: {make([]api.Posting, api.MaxPostings), book(posting(0), posting(3, 1, 5))},
	}
	// A posting of an Id that was there is told ahead of what is wrong with those behind it.
	out[api.ErrTwice] = append(out[api.ErrTwice], append(two(), two()[1], posting(0)))
	for e, all := range wrongPostings() {
		for _, p := range all {
			out[e] = append(out[e], book(p), append(two(), p), append(book(p), two()...))
		}
	}
	return out
}

// book of these postings, however wrong they are.
func book(l ...api.Posting) []api.Posting { return l }

// deep copy of a ledger.
func deep(l []api.Posting) []api.Posting {
	out := make([]api.Posting, len(l))
	for i, p := range l {
		out[i] = api.Posting{Id: p.Id, Lines: slices.Clone(p.Lines)}
	}
	return out
}

func same(a, b []api.Posting) bool {
	return slices.EqualFunc(a, b, func(p, q api.Posting) bool { return p.Id == q.Id && slices.Equal(p.Lines, q.Lines) })
}

// short: what is shown of a ledger.
func short(l []api.Posting) string {
	return fmt.Sprintf("%d postings from %v on", len(l), l[:min(len(l), 3)])
}

func wantCheck(t *testing.T, l []api.Posting, e api.Errno) {
	t.Helper()
	if err := ledger.Check(l); err != e {
		t.Errorf("Check of %s: %d, and must be %d", short(l), err, e)
	}
}

func wantPost(t *testing.T, l []api.Posting, p api.Posting, want []api.Posting, e api.Errno) {
	t.Helper()
	if got, err := ledger.Post(l, p); !same(got, want) || err != e {
		t.Errorf("Post of %v behind %s: %s, %d, and must be %s, %d", p, short(l), short(got), err, short(want), e)
	}
}

func wantBalance(t *testing.T, l []api.Posting, account, want int, e api.Errno) {
	t.Helper()
	if got, err := ledger.Balance(l, account); got != want || err != e {
		t.Errorf("Balance of %s, %d: %d %d, and must be %d %d", short(l), account, got, err, want, e)
	}
}

func wantReverse(t *testing.T, l []api.Posting, id, as int, want []api.Posting, e api.Errno) {
	t.Helper()
	if got, err := ledger.Reverse(l, id, as); !same(got, want) || err != e {
		t.Errorf("Reverse in %s of %d as %d: %s, %d, and must be %s, %d", short(l), id, as, short(got), err, short(want), e)
	}
}

func TestP5Right(t *testing.T) {
	for _, p := range rightPostings() {
		wantCheck(t, book(p), api.OK)
		wantPost(t, nil, p, book(p), api.OK)
		for _, id := range []int{1, math.MaxInt} {
			p.Id = id
			wantCheck(t, book(p), api.OK)
		}
	}
}

func TestP5Wrong(t *testing.T) {
	for e, all := range wrongPostings() {
		for _, p := range all {
			wantCheck(t, book(p), e)
			wantPost(t, nil, p, nil, e)
		}
	}
}

// TestP5EveryLine: one number that may or may not stand there, at whatever line.
func TestP5EveryLine(t *testing.T) {
	for many := 2; many <= api.MaxAccount; many++ {
		for i := range many {
			with := func(line api.Line) []api.Posting {
				p := api.Posting{Id: 3}
				for k := range many {
					p.Lines = append(p.Lines, api.Line{Account: k + 1, Pence: 1})
				}
				p.Lines[i] = line
				return book(p)
			}
			wantCheck(t, with(api.Line{Account: i + 1, Pence: 1 - many}), api.OK)
			wantCheck(t, with(api.Line{Account: i + 1, Pence: 2 - many}), choose(many == 2, api.ErrRange, api.ErrState))
			wantCheck(t, with(api.Line{Account: i + 1, Pence: -many}), api.ErrState)
			wantCheck(t, with(api.Line{Account: i + 1, Pence: api.MaxPence}), api.ErrState)
			wantCheck(t, with(api.Line{Account: i + 1}), api.ErrRange)
			wantCheck(t, with(api.Line{Account: i + 1, Pence: api.MaxPence + 1}), api.ErrRange)
			wantCheck(t, with(api.Line{Account: 0, Pence: 1 - many}), api.ErrKind)
			wantCheck(t, with(api.Line{Account: api.MaxAccount + 1, Pence: 1 - many}), api.ErrKind)
			wantCheck(t, with(api.Line{Account: (i+1)%many + 1, Pence: 1 - many}), api.ErrTwice)
		}
	}
}

func choose(is bool, yes, no api.Errno) api.Errno {
	if is {
		return yes
	}
	return no
}

func TestP6Check(t *testing.T) {
	for _, l := range [][]api.Posting{nil, {}, two(), alike(1), alike(api.MaxPostings), append(two(), posting(math.MaxInt, 4, 1, 5, -1)), book(posting(9, 1, 5, 2, -5), posting(3, 1, 5, 2, -5))} {
		wantCheck(t, l, api.OK)
	}
	for e, all := range wrongLedgers() {
		for _, l := range all {
			wantCheck(t, l, e)
		}
	}
}

// TestP6EveryPlace: an Id twice, wherever both stand.
func TestP6EveryPlace(t *testing.T) {
	for i := range 8 {
		for k := range 8 {
			l := alike(8)
			l[i].Id = k + 1
			wantCheck(t, l, choose(i == k, api.OK, api.ErrTwice))
		}
	}
}

func TestP6Post(t *testing.T) {
	var l []api.Posting
	for _, p := range two() {
		wantPost(t, l, p, append(deep(l), p), api.OK)
		l = append(l, p)
	}
	for _, p := range rightPostings() {
		wantPost(t, l, p, append(two(), p), api.OK)
		// At the end, whatever its Id.
		for _, id := range []int{4, 1000, math.MaxInt} {
			high := append(two(), posting(5, 1, 1, 2, -1))
			p.Id = id
			wantPost(t, high, p, append(deep(high), p), api.OK)
		}
	}
}

// TestP6PostAgain: of an Id that is there nothing changes, or it is told.
func TestP6PostAgain(t *testing.T) {
	l := append(two(), rightPostings()[6])
	for i := range l {
		wantPost(t, l, deep(l)[i], l, api.OK)
	}
	for _, p := range []api.Posting{
		posting(1, 2, -600, 1, 600), posting(1, 1, 601, 2, -601), posting(1, 1, 600, 3, -600), posting(1, 1, -600, 2, 600),
		posting(1, 1, 600, 2, -500, 3, -100), posting(2, 1, 600, 2, -600), posting(2, 1, 500, 2, -500),
		posting(2, 1, 500, 3, -100, 2, -400), posting(3, 1, 1, 2, 1, 3, 1, 5, -4, 4, 1), posting(3, 1, 500, 2, -400, 3, -100),
	} {
		wantPost(t, l, p, nil, api.ErrTwice)
	}
	// The same lines of another Id are another posting.
	wantPost(t, l, posting(4, 1, 600, 2, -600), append(deep(l), posting(4, 1, 600, 2, -600)), api.OK)
}

func TestP6PostMany(t *testing.T) {
	full := alike(api.MaxPostings)
	wantPost(t, alike(api.MaxPostings-1), full[api.MaxPostings-1], full, api.OK)
	wantPost(t, full, posting(api.MaxPostings+1, 1, 1, 2, -1), nil, api.ErrMany)
	wantPost(t, full, posting(math.MaxInt, 4, 1, 5, -1), nil, api.ErrMany)
	// What is there needs no room, and other lines are told first.
	for _, i := range []int{0, 50, api.MaxPostings - 1} {
		wantPost(t, full, deep(full)[i], full, api.OK)
		wantPost(t, full, posting(i+1, 1, 2, 2, -2), nil, api.ErrTwice)
	}
	for e, all := range wrongPostings() {
		for _, p := range all {
			wantPost(t, full, p, nil, e)
		}
	}
}

// TestP6PostWrong: the ledger tells first, then the posting, then its Id.
func TestP6PostWrong(t *testing.T) {
	for e, all := range wrongLedgers() {
		for _, l := range all {
			wantPost(t, l, posting(9, 1, 5, 2, -5), nil, e)
			wantPost(t, l, posting(1, 1, 600, 2, -600), nil, e)
			wantPost(t, l, posting(0), nil, e)
			wantPost(t, l, posting(9, 6, 5, 2, -5), nil, e)
		}
	}
	three := append(two(), posting(3, 1, 5, 2, -5))
	for e, all := range wrongPostings() {
		for _, p := range all {
			wantPost(t, three, p, nil, e)
		}
	}
}

func TestP7Balance(t *testing.T) {
	l := append(two(), posting(3, 4, 50, 1, -30, 5, -20), posting(7, 2, 1, 1, -1))
	for account, want := range map[int]int{api.Cash: 1069, api.Revenue: -999, api.Fees: -100, api.Customer: 50, api.Employer: -20} {
		wantBalance(t, l, account, want, api.OK)
		wantBalance(t, nil, account, 0, api.OK)
		wantBalance(t, []api.Posting{}, account, 0, api.OK)
	}
	wantBalance(t, two(), api.Employer, 0, api.OK)
	// All pence together may be more than an amount is.
	great := alike(api.MaxPostings)
	for i := range great {
		great[i].Lines = lines(5, -api.MaxPence, 3, api.MaxPence)
	}
	wantBalance(t, great, 5, -api.MaxPostings*api.MaxPence, api.OK)
	wantBalance(t, great, 3, api.MaxPostings*api.MaxPence, api.OK)
}

func TestP7BalanceWrong(t *testing.T) {
	for _, account := range append([]int{0, -1, api.MaxAccount + 1, 7}, extremes...) {
		wantBalance(t, two(), account, 0, api.ErrKind)
		wantBalance(t, nil, account, 0, api.ErrKind)
		// The ledger tells ahead of the account.
		for e, all := range wrongLedgers() {
			for _, l := range all {
				wantBalance(t, l, account, 0, e)
				wantBalance(t, l, 1, 0, e)
			}
		}
	}
}

func TestP7Reverse(t *testing.T) {
	l := two()
	wantReverse(t, l, 1, 9, append(two(), posting(9, 1, -600, 2, 600)), api.OK)
	wantReverse(t, l, 2, 9, append(two(), posting(9, 1, -500, 2, 400, 3, 100)), api.OK)
	for _, p := range rightPostings() {
		back := api.Posting{Id: math.MaxInt}
		for _, line := range p.Lines {
			back.Lines = append(back.Lines, api.Line{Account: line.Account, Pence: -line.Pence})
		}
		wantReverse(t, append(two(), p), 3, math.MaxInt, append(two(), p, back), api.OK)
	}
	// What was reversed can be reversed, and a second time as another one.
	once, _ := ledger.Reverse(l, 2, 3)
	wantReverse(t, once, 3, 4, append(deep(once), posting(4, 1, 500, 2, -400, 3, -100)), api.OK)
	wantReverse(t, once, 2, 4, append(deep(once), posting(4, 1, -500, 2, 400, 3, 100)), api.OK)
	// Done again, nothing changes; the one is what the other takes back.
	wantReverse(t, once, 2, 3, once, api.OK)
	wantReverse(t, once, 3, 2, once, api.OK)
}

func TestP7ReverseWrong(t *testing.T) {
	for _, id := range append([]int{0, -1, 3}, extremes...) {
		for _, as := range append([]int{0, 1, 2, 9}, extremes...) {
			wantReverse(t, two(), id, as, nil, api.ErrNone)
			wantReverse(t, nil, id, as, nil, api.ErrNone)
		}
	}
	for _, as := range []int{0, -1, math.MinInt} {
		wantReverse(t, two(), 1, as, nil, api.ErrRange)
		wantReverse(t, alike(api.MaxPostings), 1, as, nil, api.ErrRange)
	}
	// As itself, and as one that has other lines.
	wantReverse(t, two(), 1, 1, nil, api.ErrTwice)
	wantReverse(t, two(), 1, 2, nil, api.ErrTwice)
	wantReverse(t, two(), 2, 1, nil, api.ErrTwice)
	wantReverse(t, append(two(), posting(3, 2, 600, 1, -600)), 1, 3, nil, api.ErrTwice)
	full := alike(api.MaxPostings)
	wantReverse(t, full, 1, api.MaxPostings+1, nil, api.ErrMany)
	wantReverse(t, full, 1, 2, nil, api.ErrTwice)
	wantReverse(t, full, api.MaxPostings+1, api.MaxPostings+2, nil, api.ErrNone)
	full[99].Lines = lines(1, -1, 2, 1)
	wantReverse(t, full, 1, 100, full, api.OK)
	wantReverse(t, alike(api.MaxPostings-1), 1, 100, full, api.OK)
	for e, all := range wrongLedgers() {
		for _, l := range all {
			wantReverse(t, l, 1, 9, nil, e)
			wantReverse(t, l, 77, 9, nil, e)
			wantReverse(t, l, 1, 0, nil, e)
		}
	}
}

// drawn posting that is right, of one of a few Ids.
func drawn(r *rand.Rand, ids int) api.Posting {
	p := api.Posting{Id: 1 + r.Intn(ids)}
	sum := 0
	order := r.Perm(api.MaxAccount)[:2+r.Intn(api.MaxAccount-1)]
	for _, a := range order[1:] {
		n := 1 + r.Intn(1000)
		if r.Intn(2) == 0 {
			n = -n
		}
		p.Lines = append(p.Lines, api.Line{Account: a + 1, Pence: n})
		sum += n
	}
	p.Lines = append(p.Lines, api.Line{Account: order[0] + 1, Pence: -sum})
	if sum == 0 {
		return drawn(r, ids)
	}
	return p
}

// all accounts together, and each.
func all(t *testing.T, l []api.Posting) (int, [api.MaxAccount]int) {
	t.Helper()
	var each [api.MaxAccount]int
	sum := 0
	for i := range each {
		n, err := ledger.Balance(l, i+1)
		if err != api.OK {
			t.Fatalf("Balance of %s, %d: %d", short(l), i+1, err)
		}
		each[i] = n
		sum += n
	}
	return sum, each
}

// TestP8Even: whatever postings come, in whatever order and however often, all accounts together are 0, and what each
// has does not hang on it.
func TestP8Even(t *testing.T) {
	r := rand.New(rand.NewSource(1))
	for range 100 {
		var some []api.Posting
		for i := range 12 {
			p := drawn(r, 1)
			p.Id = i + 1
			some = append(some, p)
		}
		var first [api.MaxAccount]int
		for turn := range 4 {
			coming := append(deep(some), some[:turn*3]...)
			r.Shuffle(len(coming), func(i, k int) { coming[i], coming[k] = coming[k], coming[i] })
			var l []api.Posting
			for _, p := range coming {
				more, err := ledger.Post(l, p)
				if err != api.OK {
					t.Fatalf("Post of %v behind %s: %d", p, short(l), err)
				}
				l = more
				if sum, _ := all(t, l); sum != 0 {
					t.Fatalf("all accounts of %v are %d together", l, sum)
				}
			}
			if _, each := all(t, l); turn == 0 {
				first = each
			} else if each != first {
				t.Fatalf("in another order each account has %v, and had %v", each, first)
			}
		}
	}
}

// TestP8AnyCalls: postings that are right or wrong, there or not, and reverses, held against a ledger that is kept by
// hand.
func TestP8AnyCalls(t *testing.T) {
	r := rand.New(rand.NewSource(2))
	for range 40 {
		var l []api.Posting
		for range 150 {
			p := drawn(r, 60)
			place := slices.IndexFunc(l, func(q api.Posting) bool { return q.Id == p.Id })
			switch {
			case r.Intn(4) == 0 && len(l) > 0:
				p = deep(l)[r.Intn(len(l))]
				wantPost(t, l, p, l, api.OK)
			case place >= 0 && slices.Equal(l[place].Lines, p.Lines):
				wantPost(t, l, p, l, api.OK)
			case place >= 0:
				wantPost(t, l, p, nil, api.ErrTwice)
			case r.Intn(3) == 0 && len(l) > 0:
				of := l[r.Intn(len(l))]
				back := api.Posting{Id: p.Id}
				for _, line := range of.Lines {
					back.Lines = append(back.Lines, api.Line{Account: line.Account, Pence: -line.Pence})
				}
				wantReverse(t, l, of.Id, p.Id, append(deep(l), back), api.OK)
				l = append(deep(l), back)
			default:
				wantPost(t, l, p, append(deep(l), p), api.OK)
				l = append(deep(l), p)
			}
			if sum, _ := all(t, l); sum != 0 {
				t.Fatalf("all accounts of %v are %d together", l, sum)
			}
		}
	}
}

// TestP7TakenBack: a posting and the one that reverses it are nothing together.
func TestP7TakenBack(t *testing.T) {
	r := rand.New(rand.NewSource(3))
	for range 300 {
		p := drawn(r, 5)
		l, err := ledger.Reverse(book(p), p.Id, 6)
		if err != api.OK || len(l) != 2 {
			t.Fatalf("Reverse of %v: %v %d", p, l, err)
		}
		if _, each := all(t, l); each != [api.MaxAccount]int{} {
			t.Errorf("behind %v the accounts are %v", l, each)
		}
	}
}

// told: all answers of a ledger and a posting.
func told(l []api.Posting, p api.Posting) string {
	more, e1 := ledger.Post(l, p)
	back, e2 := ledger.Reverse(l, p.Id, p.Id+1)
	n, e3 := ledger.Balance(l, p.Id%7)
	return fmt.Sprint(ledger.Check(l), more, e1, back, e2, n, e3)
}

// anyPosting: its numbers may or may not stand there.
func anyPosting(r *rand.Rand) api.Posting {
	if r.Intn(3) > 0 {
		return drawn(r, 100)
	}
	p := api.Posting{Id: r.Intn(60) - 1}
	for range r.Intn(9) {
		line := api.Line{Account: r.Intn(8) - 1, Pence: r.Intn(7) - 3}
		if r.Intn(20) == 0 {
			line = api.Line{Account: int(r.Uint64()), Pence: int(r.Uint64())}
		}
		p.Lines = append(p.Lines, line)
	}
	return p
}

// TestP1AnyNumbers: no call panics, whatever it is handed, and with an error there is nothing else.
func TestP1AnyNumbers(t *testing.T) {
	r := rand.New(rand.NewSource(4))
	for range 20000 {
		l := make([]api.Posting, r.Intn(4))
		if r.Intn(50) == 0 {
			l = make([]api.Posting, 98+r.Intn(5))
		}
		for i := range l {
			l[i] = anyPosting(r)
		}
		p := anyPosting(r)
		if more, err := ledger.Post(l, p); (err == api.OK) != (len(more) > 0) {
			t.Errorf("Post of %v behind %v: %v %d", p, l, more, err)
		}
		if back, err := ledger.Reverse(l, p.Id, r.Intn(100)); (err == api.OK) != (len(back) > 0) {
			t.Errorf("Reverse in %v of %d: %v %d", l, p.Id, back, err)
		}
		if n, err := ledger.Balance(l, r.Intn(8)-1); n != 0 && err != api.OK {
			t.Errorf("Balance of %v: %d %d", l, n, err)
		}
	}
}

// TestP2OnlyRead: a ledger, its lines and the spare room behind them are as they were.
func TestP2OnlyRead(t *testing.T) {
	for _, p := range []api.Posting{posting(1, 1, 600, 2, -600), posting(9, 1, 5, 2, -5), posting(2, 1, 5, 2, -5), posting(0)} {
		room := append(two(), posting(7, 1, 5, 2, -5, 3, 9), posting(0, 6, 6), posting(8))
		room[2].Lines = room[2].Lines[:2]
		was := deep(room)
		was[2].Lines = lines(1, 5, 2, -5, 3, 9)
		spare := append(p.Lines, lines(4, 44)...)
		wasSpare := slices.Clone(spare)
		p.Lines = spare[:len(p.Lines)]
		for many := range len(room) + 1 {
			first := told(room[:many], p)
			now := deep(room)
			now[2].Lines = room[2].Lines[:3]
			if !same(now, was) || !slices.Equal(spare, wasSpare) {
				t.Fatalf("there is %v and %v, and was %v and %v", now, spare, was, wasSpare)
			}
			if again := told(room[:many], p); again != first {
				t.Errorf("%s, and it was %s", again, first)
			}
		}
	}
}

// TestP2AnswersAreTheCallers: what is done to what came in is not seen in what came out, nor the other way round, nor
// from one list of an answer in another.
func TestP2AnswersAreTheCallers(t *testing.T) {
	calls := []func(l []api.Posting, p api.Posting) ([]api.Posting, api.Errno){
		ledger.Post,
		func(l []api.Posting, p api.Posting) ([]api.Posting, api.Errno) { return ledger.Reverse(l, 1, p.Id) },
	}
	for _, call := range calls {
		for _, p := range []api.Posting{posting(9, 1, -600, 2, 600), posting(3, 1, -600, 2, 600)} {
			l := append(two(), posting(3, 1, -600, 2, 600))
			out, err := call(l, p)
			again, _ := call(l, p)
			if err != api.OK {
				t.Fatalf("behind %v: %d", l, err)
			}
			was := deep(out)
			for _, q := range append(l, p) {
				clear(q.Lines)
			}
			clear(l)
			if !same(out, was) || !same(again, was) {
				t.Errorf("it is %v and %v, and was %v", out, again, was)
			}
			for i := range out {
				clear(out[i].Lines[:cap(out[i].Lines)])
				out[i].Lines = was[i].Lines
				if !same(out, was) || !same(again, was) {
					t.Errorf("it is %v and %v, and was %v", out, again, was)
				}
			}
		}
	}
}

// TestP3NothingIsKept: asked backward and by many at once, the answers are the same.
func TestP3NothingIsKept(t *testing.T) {
	r := rand.New(rand.NewSource(5))
	const count = 200
	var ledgers [count][]api.Posting
	var postings [count]api.Posting
	var first [count]string
	for i := range count {
		for k := range r.Intn(9) {
			p := drawn(r, 1)
			p.Id += k
			ledgers[i] = append(ledgers[i], p)
		}
		postings[i] = drawn(r, 12)
		first[i] = told(ledgers[i], postings[i])
	}
	var all sync.WaitGroup
	for range 4 {
		all.Go(func() {
			for i := count - 1; i >= 0; i-- {
				if again := told(ledgers[i], postings[i]); again != first[i] {
					t.Errorf("%s, and it was %s", again, first[i])
				}
			}
		})
	}
	all.Wait()
}
