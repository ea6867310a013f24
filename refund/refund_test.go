package refund_test

import (
	"fmt"
	"math"
	"math/big"
	"math/rand"
	"slices"
	"sync"
	"testing"

	"swinggate/api"
	"swinggate/refund"
)

// three offers: a day, a week, a month.
func three() []api.Offer {
	return []api.Offer{{Days: 1, Price: 500}, {Days: 7, Price: 2000}, {Days: 30, Price: 6000}}
}

func drawn(r *rand.Rand) []api.Offer {
	out := make([]api.Offer, 1+r.Intn(api.MaxOffers))
	for i := range out {
		out[i] = api.Offer{Days: 1 + r.Intn(60), Price: r.Intn(9000)}
	}
	return out
}

// worthOf days: the least price of offers that have so many or more, one step on from fewer days each time.
func worthOf(l []api.Offer, used int) int {
	price := slices.Repeat([]int{math.MaxInt / 2}, used+1)
	price[0] = 0
	for days := range used {
		for _, o := range l {
			to := min(used, days+o.Days)
			price[to] = min(price[to], price[days]+o.Price)
		}
	}
	return price[used]
}

// backOf what was paid, reckoned without a bound.
func backOf(paid, worth, fee int) int {
	n := big.NewInt(int64(paid))
	n.Sub(n, big.NewInt(int64(worth)))
	n.Sub(n, big.NewInt(int64(fee)))
	if n.Sign() < 0 {
		return 0
	}
	return int(n.Int64())
}

// wrongOffers, each with what is told of them.
func wrongOffers() map[api.Errno][][]api.Offer {
	return map[api.Errno][][]api.Offer{
		api.ErrNone: {nil, {}},
		api.ErrMany: {make([]api.Offer, 9), slices.Repeat(three(), 3)},
		api.ErrRange: {
			{{Days: 0, Price: 1}}, {{Days: api.MaxSpan + 1, Price: 1}}, {{Days: 1, Price: -1}}, {{Days: 1, Price: api.MaxPrice + 1}},
			append(three(), api.Offer{}), {{Days: math.MinInt, Price: math.MaxInt}},
		},
	}
}

func wantWorth(t *testing.T, l []api.Offer, used, want int, e api.Errno) {
	t.Helper()
	if got, err := refund.Worth(l, used); got != want || err != e {
		t.Errorf("Worth(%v, %d): %d %d, and must be %d %d", l, used, got, err, want, e)
	}
}

func wantOf(t *testing.T, paid int, l []api.Offer, used, fee, want int, e api.Errno) {
	t.Helper()
	if got, err := refund.Of(paid, l, used, fee); got != want || err != e {
		t.Errorf("Of(%d, %v, %d, %d): %d %d, and must be %d %d", paid, l, used, fee, got, err, want, e)
	}
}

func TestN1Worth(t *testing.T) {
	for used, want := range map[int]int{0: 0, 1: 500, 3: 1500, 4: 2000, 7: 2000, 8: 2500, 14: 4000, 18: 6000, 22: 6000, 30: 6000, 31: 6500, api.MaxSpan: 81500} {
		wantWorth(t, three(), used, want, api.OK)
	}
	wantWorth(t, []api.Offer{{Days: 1, Price: api.MaxPrice}}, api.MaxSpan, api.MaxSpan*api.MaxPrice, api.OK)
	wantWorth(t, []api.Offer{{Days: 10}}, api.MaxSpan, 0, api.OK)
	r := rand.New(rand.NewSource(1))
	for range 2000 {
		l, used := drawn(r), r.Intn(api.MaxSpan+1)
		wantWorth(t, l, used, worthOf(l, used), api.OK)
	}
}

func TestN1WorthWrong(t *testing.T) {
	for _, used := range []int{-1, api.MaxSpan + 1, math.MinInt, math.MaxInt} {
		wantWorth(t, three(), used, 0, api.ErrRange)
		// The offers tell ahead of the days.
		for e, all := range wrongOffers() {
			for _, l := range all {
				wantWorth(t, l, used, 0, e)
				wantWorth(t, l, 0, 0, e)
			}
		}
	}
}

func TestN1Of(t *testing.T) {
	wantOf(t, 6000, three(), 0, 500, 5500, api.OK)
	wantOf(t, 6000, three(), 1, 500, 5000, api.OK)
	wantOf(t, 6000, three(), 5, 500, 3500, api.OK)
	wantOf(t, 6000, three(), 5, 0, 4000, api.OK)
	wantOf(t, 2000, three(), 0, 0, 2000, api.OK)
	wantOf(t, 0, three(), 0, 0, 0, api.OK)
	// At 0, and a penny about it: by what was paid, by the fee, by the days.
	wantOf(t, 2500, three(), 7, 500, 0, api.OK)
	wantOf(t, 2501, three(), 7, 500, 1, api.OK)
	wantOf(t, 2499, three(), 7, 500, 0, api.OK)
	wantOf(t, 2500, three(), 7, 499, 1, api.OK)
	wantOf(t, 2500, three(), 7, 501, 0, api.OK)
	wantOf(t, 2500, three(), 8, 500, 0, api.OK)
	wantOf(t, 0, three(), 30, 500, 0, api.OK)
	wantOf(t, 400, three(), 0, 500, 0, api.OK)
	wantOf(t, 400, three(), 1, 0, 0, api.OK)
	// The greatest amounts.
	wantOf(t, api.MaxPence, three(), 0, 0, api.MaxPence, api.OK)
	wantOf(t, api.MaxPence, three(), 0, api.MaxPence, 0, api.OK)
	wantOf(t, api.MaxPence, three(), 0, api.MaxPence-1, 1, api.OK)
	wantOf(t, api.MaxPence, three(), api.MaxSpan, 1, api.MaxPence-81501, api.OK)
	wantOf(t, 0, []api.Offer{{Days: 1, Price: api.MaxPrice}}, api.MaxSpan, api.MaxPence, 0, api.OK)
}

func TestN1OfWrong(t *testing.T) {
	for _, p := range []int{-1, api.MaxPence + 1, math.MinInt, math.MaxInt} {
		wantOf(t, p, three(), 5, 500, 0, api.ErrRange)
		wantOf(t, 6000, three(), 5, p, 0, api.ErrRange)
		wantOf(t, p, three(), 5, p, 0, api.ErrRange)
		// Amounts tell ahead of the offers.
		for _, all := range wrongOffers() {
			for _, l := range all {
				wantOf(t, p, l, 5, 500, 0, api.ErrRange)
				wantOf(t, 6000, l, 5, p, 0, api.ErrRange)
			}
		}
	}
	for _, used := range []int{-1, api.MaxSpan + 1, math.MinInt, math.MaxInt} {
		wantOf(t, 6000, three(), used, 500, 0, api.ErrRange)
		wantOf(t, 0, three(), used, 0, 0, api.ErrRange)
	}
	for e, all := range wrongOffers() {
		for _, l := range all {
			for _, used := range []int{0, 5, -1, api.MaxSpan + 1} {
				wantOf(t, 6000, l, used, 500, 0, e)
				wantOf(t, 0, l, used, api.MaxPence, 0, e)
			}
		}
	}
}

// TestN1AnyRefund: as it is reckoned without a bound.
func TestN1AnyRefund(t *testing.T) {
	r := rand.New(rand.NewSource(2))
	for range 3000 {
		l, used, paid, fee := drawn(r), r.Intn(api.MaxSpan+1), r.Intn(60000), r.Intn(4000)
		if r.Intn(10) == 0 {
			paid, fee = r.Intn(api.MaxPence+1), r.Intn(api.MaxPence+1)
		}
		wantOf(t, paid, l, used, fee, backOf(paid, worthOf(l, used), fee), api.OK)
	}
}

// TestN2NoMore: nobody is given back more than was paid, and of more days that were used no more.
func TestN2NoMore(t *testing.T) {
	r := rand.New(rand.NewSource(3))
	for range 100 {
		l, paid, fee := drawn(r), r.Intn(60000), r.Intn(3)*500
		before := paid
		for used := range api.MaxSpan + 1 {
			back, err := refund.Of(paid, l, used, fee)
			if err != api.OK || back < 0 || back > before {
				t.Fatalf("Of(%d, %v, %d, %d): %d %d, and at most %d", paid, l, used, fee, back, err, before)
			}
			before = back
		}
	}
}

// told: all answers of what was paid, offers, days and a fee.
func told(paid int, l []api.Offer, used, fee int) string {
	worth, e1 := refund.Worth(l, used)
	back, e2 := refund.Of(paid, l, used, fee)
	return fmt.Sprint(worth, e1, back, e2)
}

// TestP1AnyNumbers: no call panics, whatever it is handed, and with an error there is nothing else.
func TestP1AnyNumbers(t *testing.T) {
	r := rand.New(rand.NewSource(4))
	about := func(most int) int {
		if r.Intn(40) == 0 {
			return int(r.Uint64())
		}
		return r.Intn(most+4) - 2
	}
	for range 20000 {
		l := make([]api.Offer, r.Intn(11))
		for i := range l {
			l[i] = api.Offer{Days: about(api.MaxSpan), Price: about(api.MaxPrice)}
		}
		paid, used, fee := about(api.MaxPence), about(api.MaxSpan), about(api.MaxPence)
		if worth, err := refund.Worth(l, used); worth != 0 && err != api.OK {
			t.Errorf("Worth(%v, %d): %d %d", l, used, worth, err)
		}
		if back, err := refund.Of(paid, l, used, fee); back != 0 && err != api.OK {
			t.Errorf("Of(%d, %v, %d, %d): %d %d", paid, l, used, fee, back, err)
		}
	}
}

// TestP2OnlyRead: offers and the spare room behind them are as they were.
func TestP2OnlyRead(t *testing.T) {
	room := append(slices.Repeat(three(), 3), api.Offer{Days: 0, Price: -1})
	was := slices.Clone(room)
	for many := range len(room) + 1 {
		for _, used := range []int{-1, 0, 20, api.MaxSpan} {
			told(6000, room[:many], used, 500)
			if !slices.Equal(room, was) {
				t.Fatalf("the offers are %v, and were %v", room, was)
			}
		}
	}
}

// TestP3NothingIsKept: asked backward and by many at once, the answers are the same.
func TestP3NothingIsKept(t *testing.T) {
	r := rand.New(rand.NewSource(5))
	const count = 300
	var offers [count][]api.Offer
	var first [count]string
	ask := func(i int) string { return told(i*700, offers[i], i*3-50, i%4*500) }
	for i := range count {
		offers[i] = drawn(r)
		first[i] = ask(i)
	}
	var all sync.WaitGroup
	for range 4 {
		all.Go(func() {
			for i := count - 1; i >= 0; i-- {
				if again := ask(i); again != first[i] {
					t.Errorf("%s, and it was %s", again, first[i])
				}
			}
		})
	}
	all.Wait()
}
