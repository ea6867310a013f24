package cover_test

import (
	"fmt"
	"math"
	"math/rand"
	"slices"
	"sync"
	"testing"

	"swinggate/api"
	"swinggate/cover"
)

// list of offers by their numbers, days and price by turns.
func list(numbers ...int) []api.Offer {
	var out []api.Offer
	for i := 0; i+1 < len(numbers); i += 2 {
		out = append(out, api.Offer{Days: numbers[i], Price: numbers[i+1]})
	}
	return out
}

// alike: so many offers of so many days for a price.
func alike(many, days, price int) []api.Offer {
	return slices.Repeat(list(days, price), many)
}

// with one offer another one.
func with(l []api.Offer, i int, o api.Offer) []api.Offer {
	out := slices.Clone(l)
	out[i] = o
	return out
}

func drawn(r *rand.Rand, many, days, price int) []api.Offer {
	out := make([]api.Offer, many)
	for i := range out {
		out[i] = api.Offer{Days: 1 + r.Intn(days), Price: r.Intn(price + 1)}
	}
	return out
}

// leastOf all ways to choose how many of each offer: what is left is had by one or more of the others.
func leastOf(l []api.Offer, days int) int {
	if days <= 0 {
		return 0
	}
	if len(l) == 0 {
		return math.MaxInt / 2
	}
	least := math.MaxInt / 2
	for many := 0; (many-1)*l[0].Days < days; many++ {
		least = min(least, many*l[0].Price+leastOf(l[1:], days-many*l[0].Days))
	}
	return least
}

// leastByDays: at each number of days the least price of offers that have just so many, and of them the least of so
// many or more.
func leastByDays(l []api.Offer) []int {
	out := slices.Repeat([]int{math.MaxInt / 2}, 2*api.MaxSpan+1)
	out[0] = 0
	for days := range out {
		for _, o := range l {
			if days+o.Days < len(out) {
				out[days+o.Days] = min(out[days+o.Days], out[days]+o.Price)
			}
		}
	}
	for days := len(out) - 2; days >= 0; days-- {
		out[days] = min(out[days], out[days+1])
	}
	return out[:api.MaxSpan+1]
}

// firstOf all ways to buy offers one behind the other for a price in all, till no day is left: the one whose places
// come first. There is none, if the answer is false.
func firstOf(l []api.Offer, days, price int) ([]int, bool) {
	if days <= 0 {
		return nil, price == 0
	}
	for i, o := range l {
		if rest, ok := firstOf(l, days-o.Days, price-o.Price); ok && o.Price <= price {
			return append([]int{i}, rest...), true
		}
	}
	return nil, false
}

// wrongOffers, each with what Check answers of them.
func wrongOffers() map[api.Errno][][]api.Offer {
	return map[api.Errno][][]api.Offer{
		api.ErrNone: {nil, {}, make([]api.Offer, 0, 9)},
		// How many ahead of what they are.
		api.ErrMany: {alike(9, 1, 1), make([]api.Offer, 9), alike(9, -1, -1), make([]api.Offer, 100000)},
		api.ErrRange: {
			list(0, 1), list(-1, 1), list(api.MaxSpan+1, 1), list(math.MinInt, 1), list(math.MaxInt, 1),
			list(1, -1), list(1, api.MaxPrice+1), list(1, math.MinInt), list(1, math.MaxInt),
			list(0, -1), list(math.MaxInt, math.MaxInt), make([]api.Offer, 8),
			list(1, 500, 7, 2000, 0, 1), list(1, 500, 7, -1, 30, 6000), list(401, 500, 7, 2000), list(1, 500, 1, 1000001),
		},
	}
}

func wantBest(t *testing.T, l []api.Offer, days, want int, e api.Errno) {
	t.Helper()
	if got, err := cover.Best(l, days); got != want || err != e {
		t.Errorf("Best(%v, %d): %d %d, and must be %d %d", l, days, got, err, want, e)
	}
}

func wantPlan(t *testing.T, l []api.Offer, days int, want []int, e api.Errno) {
	t.Helper()
	if got, err := cover.Plan(l, days); !slices.Equal(got, want) || err != e {
		t.Errorf("Plan(%v, %d): %v %d, and must be %v %d", l, days, got, err, want, e)
	}
}

// bestOf days that may be asked for.
func bestOf(t *testing.T, l []api.Offer, days int) int {
	t.Helper()
	best, err := cover.Best(l, days)
	if err != api.OK {
		t.Fatalf("Best(%v, %d): %d", l, days, err)
	}
	return best
}

func TestM1Check(t *testing.T) {
	good := [][]api.Offer{list(1, 0), list(api.MaxSpan, api.MaxPrice), list(1, 500, 7, 2000, 30, 6000), list(7, 1, 7, 1), list(30, 5, 1, 9, 7, 0)}
	for many := 1; many <= api.MaxOffers; many++ {
		good = append(good, alike(many, 1, api.MaxPrice), alike(many, api.MaxSpan, 0))
	}
	for _, l := range good {
		if err := cover.Check(l); err != api.OK {
			t.Errorf("Check(%v): %d", l, err)
		}
	}
	for e, all := range wrongOffers() {
		for _, l := range all {
			if err := cover.Check(l); err != e {
				t.Errorf("Check of %d offers from %v: %d, and must be %d", len(l), l[:min(len(l), 3)], err, e)
			}
		}
	}
}

// TestM1EveryPlace: one number that may or may not stand there, at whatever offer.
func TestM1EveryPlace(t *testing.T) {
	days := map[int]api.Errno{-1: api.ErrRange, 0: api.ErrRange, 1: api.OK, api.MaxSpan: api.OK, api.MaxSpan + 1: api.ErrRange}
	price := map[int]api.Errno{-1: api.ErrRange, 0: api.OK, api.MaxPrice: api.OK, api.MaxPrice + 1: api.ErrRange}
	for many := 1; many <= api.MaxOffers; many++ {
		l := alike(many, 7, 2000)
		for i := range l {
			for n, want := range days {
				if err := cover.Check(with(l, i, api.Offer{Days: n, Price: 5})); err != want {
					t.Errorf("Check of %d offers with %d days at %d: %d, and must be %d", many, n, i, err, want)
				}
			}
			for n, want := range price {
				if err := cover.Check(with(l, i, api.Offer{Days: 5, Price: n})); err != want {
					t.Errorf("Check of %d offers with price %d at %d: %d, and must be %d", many, n, i, err, want)
				}
			}
		}
	}
}

// TestM2WrongOffers: both calls answer what Check does, ahead of what is wrong of the days.
func TestM2WrongOffers(t *testing.T) {
	for e, all := range wrongOffers() {
		for _, l := range all {
			for _, days := range []int{0, 1, api.MaxSpan, -1, api.MaxSpan + 1, math.MinInt, math.MaxInt} {
				wantBest(t, l, days, 0, e)
				wantPlan(t, l, days, nil, e)
			}
		}
	}
}

func TestM2WrongDays(t *testing.T) {
	for _, l := range [][]api.Offer{list(1, 500, 7, 2000, 30, 6000), list(400, 0), list(1, api.MaxPrice)} {
		for _, days := range []int{-1, -7, api.MaxSpan + 1, 1000, math.MinInt, math.MaxInt} {
			wantBest(t, l, days, 0, api.ErrRange)
			wantPlan(t, l, days, nil, api.ErrRange)
		}
	}
}

func TestM2Best(t *testing.T) {
	three := list(1, 500, 7, 2000, 30, 6000)
	for days, want := range map[int]int{0: 0, 1: 500, 3: 1500, 4: 2000, 5: 2000, 7: 2000, 8: 2500, 11: 4000, 14: 4000, 15: 4500, 18: 6000, 21: 6000, 22: 6000, 30: 6000, 31: 6500, 37: 8000, 60: 12000, 400: 81500} {
		wantBest(t, three, days, want, api.OK)
	}
	// The dearest for a day is the best, if all others have too many or too few; the order does not matter.
	wantBest(t, list(30, 6000, 7, 2000, 1, 500), 8, 2500, api.OK)
	wantBest(t, list(5, 7, 3, 4), 6, 8, api.OK)
	wantBest(t, list(5, 7, 3, 4), 9, 12, api.OK)
	wantBest(t, list(6, 10, 4, 7, 1, 4), 8, 14, api.OK)
	// Nothing to pay, but days to cover.
	wantBest(t, list(10, 0), api.MaxSpan, 0, api.OK)
	wantBest(t, list(10, 0, 400, 1), 1, 0, api.OK)
	// The greatest there are.
	wantBest(t, list(1, api.MaxPrice), api.MaxSpan, api.MaxSpan*api.MaxPrice, api.OK)
	wantBest(t, list(api.MaxSpan, api.MaxPrice), api.MaxSpan, api.MaxPrice, api.OK)
	wantBest(t, list(api.MaxSpan-1, 9), api.MaxSpan, 18, api.OK)
	for _, l := range [][]api.Offer{three, list(1, 1), list(400, 1000000), alike(8, 400, 7)} {
		wantBest(t, l, 0, 0, api.OK)
	}
}

func TestM2Plan(t *testing.T) {
	three := list(1, 500, 7, 2000, 30, 6000)
	for days, want := range map[int][]int{0: nil, 1: {0}, 3: {0, 0, 0}, 4: {0, 0, 0, 0}, 5: {1}, 7: {1}, 8: {0, 1}, 14: {1, 1}, 18: {0, 0, 0, 0, 1, 1}, 19: {1, 1, 1}, 22: {2}, 31: {0, 2}, 37: {1, 2}} {
		wantPlan(t, three, days, want, api.OK)
	}
	// Of several the first one, whichever of them has more days, and if both are the same.
	wantPlan(t, list(2, 2, 4, 4), 4, []int{0, 0}, api.OK)
	wantPlan(t, list(4, 4, 2, 2), 4, []int{0}, api.OK)
	wantPlan(t, list(4, 4, 2, 2), 6, []int{0, 1}, api.OK)
	wantPlan(t, list(4, 4, 2, 2), 5, []int{0, 1}, api.OK)
	wantPlan(t, list(2, 3, 2, 3), 3, []int{0, 0}, api.OK)
	wantPlan(t, alike(8, 100, 5), api.MaxSpan, []int{0, 0, 0, 0}, api.OK)
	// Each step asks anew which one is the first.
	wantPlan(t, list(5, 7, 3, 4), 8, []int{0, 1}, api.OK)
	wantPlan(t, list(3, 4, 5, 7), 8, []int{0, 1}, api.OK)
	wantPlan(t, list(5, 7, 3, 4), 20, []int{0, 1, 1, 1, 1, 1}, api.OK)
	wantPlan(t, list(9, 0, 1, 0), 10, []int{0, 0}, api.OK)
	wantPlan(t, list(1, 0, 9, 0), 10, slices.Repeat([]int{0}, 10), api.OK)
	// Offers for nothing are not bought on when no day is left.
	wantPlan(t, list(10, 0), 10, []int{0}, api.OK)
	wantPlan(t, list(10, 0), 11, []int{0, 0}, api.OK)
	wantPlan(t, list(1, api.MaxPrice), api.MaxSpan, make([]int, api.MaxSpan), api.OK)
	wantPlan(t, list(api.MaxSpan, api.MaxPrice), 1, []int{0}, api.OK)
	for _, l := range [][]api.Offer{three, list(1, 0), alike(8, 400, 0)} {
		wantPlan(t, l, 0, nil, api.OK)
	}
}

// TestM2AnyChoice: Best is the least of all choices, reckoned offer by offer, and of all days, reckoned from none on.
func TestM2AnyChoice(t *testing.T) {
	r := rand.New(rand.NewSource(1))
	for range 3000 {
		l, days := drawn(r, 1+r.Intn(4), 9, 12), r.Intn(25)
		wantBest(t, l, days, leastOf(l, days), api.OK)
	}
	for _, price := range []int{0, 1, 5, 300, api.MaxPrice} {
		for _, most := range []int{1, 7, 40, api.MaxSpan} {
			for many := 1; many <= api.MaxOffers; many++ {
				l := drawn(r, many, most, price)
				for days, want := range leastByDays(l) {
					wantBest(t, l, days, want, api.OK)
				}
			}
		}
	}
}

// TestM2FirstPlan: of all that can be bought one behind the other for as little, the one whose places come first.
func TestM2FirstPlan(t *testing.T) {
	r := rand.New(rand.NewSource(2))
	for range 3000 {
		l, days := drawn(r, 1+r.Intn(4), 6, 4), r.Intn(10)
		want, ok := firstOf(l, days, leastOf(l, days))
		if !ok {
			t.Fatalf("of %v nothing covers %d days for the least price", l, days)
		}
		wantPlan(t, l, days, want, api.OK)
	}
}

// TestM2EveryStep of long plans: no offer ahead of the one that was bought is as good.
func TestM2EveryStep(t *testing.T) {
	r := rand.New(rand.NewSource(3))
	for range 200 {
		l, left := drawn(r, 1+r.Intn(api.MaxOffers), 1+r.Intn(30), 1+r.Intn(50)), r.Intn(api.MaxSpan+1)
		best := leastByDays(l)
		plan, err := cover.Plan(l, left)
		if err != api.OK {
			t.Fatalf("Plan(%v, %d): %d", l, left, err)
		}
		for _, i := range plan {
			if left <= 0 {
				t.Fatalf("of %v %v are bought, and there is none left for the last one", l, plan)
			}
			first := slices.IndexFunc(l, func(o api.Offer) bool { return o.Price+best[max(0, left-o.Days)] == best[left] })
			if i != first {
				t.Fatalf("of %v for %d days left: %d, and must be %d", l, left, i, first)
			}
			left -= l[i].Days
		}
		if left > 0 {
			t.Errorf("of %v %v are bought, and %d days are left", l, plan, left)
		}
	}
}

// TestM3PlanIsBest: what is planned covers the days, and costs as much as is said.
func TestM3PlanIsBest(t *testing.T) {
	r := rand.New(rand.NewSource(4))
	for range 500 {
		l, days := drawn(r, 1+r.Intn(api.MaxOffers), api.MaxSpan, api.MaxPrice), r.Intn(api.MaxSpan+1)
		plan, err := cover.Plan(l, days)
		covered, price := 0, 0
		for _, i := range plan {
			covered, price = covered+l[i].Days, price+l[i].Price
		}
		if err != api.OK || covered < days || price != bestOf(t, l, days) {
			t.Errorf("Plan(%v, %d): %v %d, of %d days for %d", l, days, plan, err, covered, price)
		}
	}
}

// TestM3MoreDays cost no less, and two parts together no less than all of it.
func TestM3MoreDays(t *testing.T) {
	r := rand.New(rand.NewSource(5))
	for range 10 {
		l := drawn(r, 1+r.Intn(api.MaxOffers), 50, 3000)
		var best [api.MaxSpan + 1]int
		for days := range best {
			best[days] = bestOf(t, l, days)
			if days > 0 && best[days] < best[days-1] {
				t.Errorf("Best(%v, %d): %d, and of a day less %d", l, days, best[days], best[days-1])
			}
			for part := range days {
				if best[part]+best[days-part] < best[days] {
					t.Errorf("Best(%v, %d): %d, and in parts %d and %d", l, days, best[days], best[part], best[days-part])
				}
			}
		}
	}
}

// TestM3NoChoiceIsCheaper: whatever is bought, its days cost no more by Best.
func TestM3NoChoiceIsCheaper(t *testing.T) {
	r := rand.New(rand.NewSource(6))
	for range 2000 {
		l := drawn(r, 1+r.Intn(api.MaxOffers), 60, 200)
		covered, price := 0, 0
		for range 1 + r.Intn(20) {
			o := l[r.Intn(len(l))]
			if covered+o.Days > api.MaxSpan {
				break
			}
			covered, price = covered+o.Days, price+o.Price
			if best := bestOf(t, l, covered); best > price {
				t.Errorf("Best(%v, %d): %d, and they are had for %d", l, covered, best, price)
			}
		}
	}
}

// told: all answers of offers and days.
func told(l []api.Offer, days int) string {
	best, e1 := cover.Best(l, days)
	plan, e2 := cover.Plan(l, days)
	return fmt.Sprint(cover.Check(l), best, e1, plan, e2)
}

// TestP1AnyOffers: no call panics, whatever it is handed, and with an error there is nothing else.
func TestP1AnyOffers(t *testing.T) {
	r := rand.New(rand.NewSource(7))
	about := func(most int) int {
		if r.Intn(40) == 0 {
			return int(r.Uint64())
		}
		return r.Intn(most+4) - 2
	}
	for range 20000 {
		l := make([]api.Offer, r.Intn(11))
		for i := range l {
			l[i] = api.Offer{Days: about(api.MaxSpan), Price: about(api.MaxPrice)}
		}
		days := about(api.MaxSpan)
		if best, err := cover.Best(l, days); best != 0 && err != api.OK {
			t.Errorf("Best(%v, %d): %d %d", l, days, best, err)
		}
		if plan, err := cover.Plan(l, days); len(plan) != 0 && err != api.OK {
			t.Errorf("Plan(%v, %d): %v %d", l, days, plan, err)
		}
	}
}

// TestP2OnlyRead: offers and the spare room behind them are as they were, and a plan is the caller's.
func TestP2OnlyRead(t *testing.T) {
	room := list(30, 6000, 1, 500, 7, 2000, 2, 0, 400, 9, 3, 3, 5, 1000000, 9, 9, 11, 2, 0, -1)
	was := slices.Clone(room)
	for many := range len(room) + 1 {
		for _, days := range []int{-1, 0, 1, 100, api.MaxSpan} {
			first := told(room[:many], days)
			plan, _ := cover.Plan(room[:many], days)
			for i := range plan[:cap(plan)] {
				plan[:cap(plan)][i] = -1
			}
			if !slices.Equal(room, was) {
				t.Fatalf("the offers are %v, and were %v", room, was)
			}
			if again := told(room[:many], days); again != first {
				t.Errorf("%s, and it was %s", again, first)
			}
		}
	}
	plan, _ := cover.Plan(room[1:3], 20)
	clear(room)
	if !slices.Equal(plan, []int{1, 1, 1}) {
		t.Errorf("the plan is %v, and the offers were cleared", plan)
	}
}

// TestP3NothingIsKept: asked backward and by many at once, the answers are the same.
func TestP3NothingIsKept(t *testing.T) {
	r := rand.New(rand.NewSource(8))
	const count = 300
	var offers [count][]api.Offer
	var days [count]int
	var first [count]string
	for i := range count {
		offers[i], days[i] = drawn(r, r.Intn(10), api.MaxSpan+1, 5000), r.Intn(api.MaxSpan+3)-1
		first[i] = told(offers[i], days[i])
	}
	var all sync.WaitGroup
	for range 4 {
		all.Go(func() {
			for i := count - 1; i >= 0; i-- {
				if again := told(offers[i], days[i]); again != first[i] {
					t.Errorf("%s, and it was %s", again, first[i])
				}
			}
		})
	}
	all.Wait()
}
