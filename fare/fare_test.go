package fare_test

import (
	"fmt"
	"iter"
	"math"
	"math/big"
	"math/rand"
	"reflect"
	"slices"
	"sync"
	"testing"

	"swinggate/api"
	"swinggate/fare"
)

// filled: fares of so many zones, all at one price.
func filled(zones, price int) api.Fares {
	out := make(api.Fares, zones)
	for a := range out {
		out[a] = slices.Repeat([]int{price}, zones-a)
	}
	return out
}

func cloned(f api.Fares) api.Fares {
	out := slices.Clone(f)
	for a := range out {
		out[a] = slices.Clone(f[a])
	}
	return out
}

// with one price another one.
func with(f api.Fares, a, k, price int) api.Fares {
	out := cloned(f)
	out[a][k] = price
	return out
}

func drawn(r *rand.Rand, zones, most int) api.Fares {
	out := filled(zones, 0)
	for _, row := range out {
		for k := range row {
			row[k] = r.Intn(most + 1)
		}
	}
	return out
}

// every one of the fares of so many zones, of prices up to most.
func every(zones, most int) iter.Seq[api.Fares] {
	return func(yield func(api.Fares) bool) {
		many := 1
		for range zones * (zones + 1) / 2 {
			many *= most + 1
		}
		for n := range many {
			f := filled(zones, 0)
			for _, row := range f {
				for k := range row {
					row[k], n = n%(most+1), n/(most+1)
				}
			}
			if !yield(f) {
				return
			}
		}
	}
}

// isFair by the promise's words, each range held against each other one, and against each two.
func isFair(f api.Fares) bool {
	for a := range f {
		for b := a; b < len(f); b++ {
			for c := range f {
				for d := c; d < len(f); d++ {
					if c <= a && b <= d && f[a][b-a] > f[c][d-c] {
						return false
					}
					if a <= b && c == b+1 && f[a][d-a] > f[a][b-a]+f[c][d-c] {
						return false
					}
				}
			}
		}
	}
	return true
}

// mendedOf fares: ranges are bought in any way, and what is had is told by a set of zones.
func mendedOf(f api.Fares) api.Fares {
	cost := make([]int, 1<<len(f))
	for had := range cost {
		cost[had] = math.MaxInt
	}
	cost[0] = 0
	for had := range cost {
		for a := range f {
			for k, p := range f[a] {
				bought := had | (1<<(k+1)-1)<<a
				cost[bought] = min(cost[bought], cost[had]+p)
			}
		}
	}
	out := filled(len(f), math.MaxInt)
	for a := range out {
		for k := range out[a] {
			zones := (1<<(k+1) - 1) << a
			for had, c := range cost {
				if had&zones == zones {
					out[a][k] = min(out[a][k], c)
				}
			}
		}
	}
	return out
}

// isNowhereDearer: f than g.
func isNowhereDearer(f, g api.Fares) bool {
	for a := range f {
		for k := range f[a] {
			if f[a][k] > g[a][k] {
				return false
			}
		}
	}
	return true
}

// partOf a price by a way, with fractions.
func partOf(price, percent, way int) int {
	whole, rest := new(big.Int).QuoRem(big.NewInt(int64(price)*int64(100-percent)), big.NewInt(100), new(big.Int))
	n, half := int(whole.Int64()), rest.Cmp(big.NewInt(50))
	switch {
	case way == api.Up && rest.Sign() > 0, way == api.HalfUp && half >= 0, way == api.HalfEven && (half > 0 || half == 0 && n%2 == 1):
		n++
	}
	return n
}

// wrongFares, each with what Check answers of it.
func wrongFares() map[api.Errno][]api.Fares {
	return map[api.Errno][]api.Fares{
		api.ErrNone: {nil, {}},
		api.ErrMany: {filled(7, 1), make(api.Fares, 7), make(api.Fares, 1000), filled(7, -1)},
		api.ErrForm: {
			{nil}, {{}}, {{1, 2}}, {{1}, {1}}, {{1, 2}, {}}, {{1, 2}, {3, 4}}, {{1}, {2, 3}}, {{1, 2, 3}, {4}}, {{1, 2}, nil},
			make(api.Fares, 6), {{1, 2, 3, 4, 5, 6}, {1, 2, 3, 4, 5}, {1, 2, 3, 4}, {1, 2, 3}, {1, 2}, {1, 2}},
			{{1, 2, 3, 4, 5, 6}, {1, 2, 3, 4, 5}, {1, 2, 3, 4}, {1, 2, 3}, {1, 2}, nil},
			// Of one row its form tells ahead of its prices, and a row ahead of those behind it.
			{{-1, 2}}, {{-1}, {-1}}, {{1, 2}, {-1, -1}}, {{1}, {-1}}, {{1, 2, 3}, {4}, {-1}},
		},
		api.ErrRange: {
			{{-1}}, {{api.MaxPrice + 1}}, {{math.MinInt}}, {{math.MaxInt}}, {{1, -1}, {1}}, {{1, 1}, {-1}}, {{1, 1}, {api.MaxPrice + 1}},
			with(filled(6, 1), 5, 0, -1), with(filled(6, 1), 0, 5, -1), with(filled(6, 1), 0, 0, api.MaxPrice+1), with(filled(6, 1), 3, 1, api.MaxPrice+1),
			// A row ahead of those behind it.
			{{-1, 2}, {}}, {{1, api.MaxPrice + 1}, {1, 1}}, {{1, 2, 3}, {-1, 5}, {}},
		},
	}
}

func wantMend(t *testing.T, f, want api.Fares) {
	t.Helper()
	if got, err := fare.Mend(f); !reflect.DeepEqual(got, want) || err != api.OK {
		t.Errorf("Mend(%v): %v %d, and must be %v", f, got, err, want)
	}
}

func wantFair(t *testing.T, f api.Fares, want bool) {
	t.Helper()
	if got, err := fare.Fair(f); got != want || err != api.OK {
		t.Errorf("Fair(%v): %v %d, and must be %v", f, got, err, want)
	}
}

func wantOf(t *testing.T, f api.Fares, a, b, percent, way, want int, e api.Errno) {
	t.Helper()
	if got, err := fare.Of(f, a, b, percent, way); got != want || err != e {
		t.Errorf("Of(%v, %d, %d, %d, %d): %d %d, and must be %d %d", f, a, b, percent, way, got, err, want, e)
	}
}

func TestL1Check(t *testing.T) {
	for zones := 1; zones <= api.MaxZones; zones++ {
		for _, price := range []int{0, 1, 500, api.MaxPrice} {
			if err := fare.Check(filled(zones, price)); err != api.OK {
				t.Errorf("Check of %d zones for %d: %d", zones, price, err)
			}
		}
	}
	for e, all := range wrongFares() {
		for _, f := range all {
			if err := fare.Check(f); err != e {
				t.Errorf("Check(%v): %d, and must be %d", f, err, e)
			}
		}
	}
}

// TestL1EveryPlace: one price that may not stand there, wherever it does, and one price more or less in any row.
func TestL1EveryPlace(t *testing.T) {
	for zones := 1; zones <= api.MaxZones; zones++ {
		for a := range zones {
			for k := range zones - a {
				for price, want := range map[int]api.Errno{-1: api.ErrRange, 0: api.OK, api.MaxPrice: api.OK, api.MaxPrice + 1: api.ErrRange} {
					if err := fare.Check(with(filled(zones, 7), a, k, price)); err != want {
						t.Errorf("Check of %d zones with %d at %d, %d: %d, and must be %d", zones, price, a, k, err, want)
					}
				}
			}
			more, less := filled(zones, 7), filled(zones, 7)
			more[a] = append(more[a], 7)
			less[a] = less[a][1:]
			if e, g := fare.Check(more), fare.Check(less); e != api.ErrForm || g != api.ErrForm {
				t.Errorf("Check of %d zones with a price more or less in row %d: %d %d", zones, a, e, g)
			}
		}
	}
}

// TestWrongFares: each call answers what Check does, ahead of all else.
func TestWrongFares(t *testing.T) {
	for e, all := range wrongFares() {
		for _, f := range all {
			if is, err := fare.Fair(f); is || err != e {
				t.Errorf("Fair(%v): %v %d, and must be %d", f, is, err, e)
			}
			if m, err := fare.Mend(f); len(m) != 0 || err != e {
				t.Errorf("Mend(%v): %v %d, and must be %d", f, m, err, e)
			}
			wantOf(t, f, 0, 0, 0, api.Down, 0, e)
			wantOf(t, f, -1, 9, 101, 0, 0, e)
		}
	}
}

func TestL1Fair(t *testing.T) {
	wantFair(t, api.Fares{{5}}, true)
	wantFair(t, api.Fares{{0}}, true)
	wantFair(t, api.Fares{{100, 200, 300}, {100, 200}, {100}}, true)
	wantFair(t, api.Fares{{100, 150, 180}, {120, 150}, {90}}, true)
	// Dearer than a range that it lies in, at either end, or in the midst.
	wantFair(t, api.Fares{{201, 200}, {100}}, false)
	wantFair(t, api.Fares{{100, 200}, {201}}, false)
	wantFair(t, api.Fares{{200, 200}, {200}}, true)
	wantFair(t, api.Fares{{100, 200, 200}, {201, 250}, {100}}, false)
	wantFair(t, api.Fares{{100, 200, 150}, {100, 150}, {100}}, false)
	// Dearer than two together.
	wantFair(t, api.Fares{{100, 201}, {100}}, false)
	wantFair(t, api.Fares{{100, 200}, {100}}, true)
	wantFair(t, api.Fares{{100, 150, 251}, {100, 200}, {100}}, false)
	wantFair(t, api.Fares{{100, 200, 251}, {100, 150}, {100}}, false)
	wantFair(t, api.Fares{{100, 200, 250}, {100, 150}, {100}}, true)
	// Two that overlap, and are it together, need not be held against it: zones 0 and 1 with 1 and 2.
	wantFair(t, api.Fares{{100, 100, 200}, {100, 100}, {100}}, true)
	wantFair(t, filled(api.MaxZones, api.MaxPrice), true)
	wantFair(t, filled(api.MaxZones, 0), true)
}

// TestL1EveryFares: small ones, by the promise's words.
func TestL1EveryFares(t *testing.T) {
	for zones, most := range map[int]int{1: 9, 2: 9, 3: 4} {
		fair := 0
		for f := range every(zones, most) {
			is := isFair(f)
			wantFair(t, f, is)
			if is {
				fair++
			}
		}
		if fair == 0 {
			t.Errorf("of %d zones none are fair", zones)
		}
	}
}

// TestL1OnePriceOff: of fair fares of all zones one price is changed.
func TestL1OnePriceOff(t *testing.T) {
	r := rand.New(rand.NewSource(1))
	fair, unfair := 0, 0
	for range 500 {
		f := mendedOf(drawn(r, 1+r.Intn(api.MaxZones), 12))
		wantFair(t, f, true)
		for a := range f {
			for k, p := range f[a] {
				for _, other := range []int{p - 1, p + 1} {
					if other < 0 {
						continue
					}
					g := with(f, a, k, other)
					is := isFair(g)
					wantFair(t, g, is)
					if is {
						fair++
					} else {
						unfair++
					}
				}
			}
		}
	}
	if fair < 100 || unfair < 100 {
		t.Errorf("%d are fair and %d not", fair, unfair)
	}
}

func TestL2Of(t *testing.T) {
	f := api.Fares{{300, 250, 900}, {401, 350}, {100}}
	wantOf(t, f, 0, 0, 0, api.Down, 300, api.OK)
	wantOf(t, f, 0, 1, 0, api.Down, 250, api.OK)
	wantOf(t, f, 0, 2, 0, api.Down, 900, api.OK)
	wantOf(t, f, 1, 1, 0, api.Down, 401, api.OK)
	wantOf(t, f, 1, 2, 0, api.Down, 350, api.OK)
	wantOf(t, f, 2, 2, 0, api.Down, 100, api.OK)
	wantOf(t, f, 0, 2, 100, api.Up, 0, api.OK)
	wantOf(t, f, 0, 2, 33, api.Down, 603, api.OK)
	wantOf(t, f, 1, 1, 50, api.Down, 200, api.OK)
	wantOf(t, f, 1, 1, 50, api.Up, 201, api.OK)
	wantOf(t, f, 1, 1, 50, api.HalfUp, 201, api.OK)
	wantOf(t, f, 1, 1, 50, api.HalfEven, 200, api.OK)
	wantOf(t, f, 1, 1, 99, api.Down, 4, api.OK)
	wantOf(t, f, 1, 1, 99, api.Up, 5, api.OK)
	wantOf(t, f, 1, 1, 1, api.HalfUp, 397, api.OK)
}

// TestL2EveryPercent: by all ways, of all ranges.
func TestL2EveryPercent(t *testing.T) {
	r := rand.New(rand.NewSource(2))
	for _, most := range []int{0, 10, 1000, api.MaxPrice} {
		for zones := 1; zones <= api.MaxZones; zones++ {
			f := drawn(r, zones, most)
			for a := range f {
				for k, p := range f[a] {
					for percent := range 101 {
						for way := api.Down; way <= api.HalfEven; way++ {
							wantOf(t, f, a, a+k, percent, way, partOf(p, percent, way), api.OK)
						}
					}
				}
			}
		}
	}
}

// TestL2EveryRange: a or b is no zone, or b is below a.
func TestL2EveryRange(t *testing.T) {
	for zones := 1; zones <= api.MaxZones; zones++ {
		f := filled(zones, 800)
		for a := -2; a <= zones+2; a++ {
			for b := -2; b <= zones+2; b++ {
				if 0 <= a && a <= b && b < zones {
					wantOf(t, f, a, b, 25, api.Up, 600, api.OK)
				} else {
					wantOf(t, f, a, b, 25, api.Up, 0, api.ErrRange)
				}
			}
		}
	}
}

func TestL2Wrong(t *testing.T) {
	f := api.Fares{{300, 250, 900}, {401, 350}, {100}}
	for _, percent := range []int{-1, 101, math.MinInt, math.MaxInt, 100 - math.MaxInt} {
		wantOf(t, f, 0, 1, percent, api.Down, 0, api.ErrRange)
		wantOf(t, f, 0, 1, percent, 9, 0, api.ErrRange)
	}
	for _, n := range []int{math.MinInt, math.MaxInt, -1, 3} {
		wantOf(t, f, n, 1, 0, api.Down, 0, api.ErrRange)
		wantOf(t, f, 1, n, 0, api.Down, 0, api.ErrRange)
		wantOf(t, f, n, n, 0, 9, 0, api.ErrRange)
	}
	for _, way := range []int{0, 5, -1, math.MinInt, math.MaxInt} {
		wantOf(t, f, 0, 1, 0, way, 0, api.ErrKind)
		wantOf(t, f, 0, 1, 100, way, 0, api.ErrKind)
		wantOf(t, f, 1, 0, 0, way, 0, api.ErrRange)
	}
}

func TestL3Mend(t *testing.T) {
	wantMend(t, api.Fares{{5}}, api.Fares{{5}})
	wantMend(t, api.Fares{{1, 2}, {3}}, api.Fares{{1, 2}, {2}})
	wantMend(t, api.Fares{{1, 5}, {3}}, api.Fares{{1, 4}, {3}})
	// Two that overlap.
	wantMend(t, api.Fares{{300, 250, 900}, {400, 350}, {100}}, api.Fares{{250, 250, 350}, {250, 350}, {100}})
	wantMend(t, api.Fares{{900, 250, 900}, {900, 350}, {900}}, api.Fares{{250, 250, 600}, {250, 350}, {350}})
	// Three, one behind the other, and a longer range than is asked for.
	wantMend(t, api.Fares{{1, 9, 9}, {1, 9}, {1}}, api.Fares{{1, 2, 3}, {1, 2}, {1}})
	wantMend(t, api.Fares{{9, 9, 4}, {9, 9}, {9}}, api.Fares{{4, 4, 4}, {4, 4}, {4}})
	// The longer range is itself dearer than two.
	wantMend(t, api.Fares{{3, 99, 99, 99}, {99, 99, 4}, {99, 99}, {99}}, api.Fares{{3, 7, 7, 7}, {4, 4, 4}, {4, 4}, {4}})
	wantMend(t, filled(6, api.MaxPrice), filled(6, api.MaxPrice))
	wantMend(t, filled(6, 0), filled(6, 0))
	wantMend(t, with(filled(6, api.MaxPrice), 0, 5, 0), filled(6, 0))
}

// TestL3AnyBuying: as ranges bought in any way and any number have it.
func TestL3AnyBuying(t *testing.T) {
	for f := range every(3, 4) {
		wantMend(t, f, mendedOf(f))
	}
	r := rand.New(rand.NewSource(3))
	for _, most := range []int{1, 3, 10, 50, 1000, api.MaxPrice} {
		for range 500 {
			f := drawn(r, 1+r.Intn(api.MaxZones), most)
			wantMend(t, f, mendedOf(f))
		}
	}
	// Longer ranges dearer, so that all kinds of buying come to be the least.
	for range 2000 {
		f := drawn(r, api.MaxZones, 10)
		for a := range f {
			for k := range f[a] {
				f[a][k] += 7 * k
			}
		}
		wantMend(t, f, mendedOf(f))
	}
}

// TestL4FairAndNotDearer: of drawn fares; and what is fair is as it was.
func TestL4FairAndNotDearer(t *testing.T) {
	r := rand.New(rand.NewSource(4))
	for range 3000 {
		f := drawn(r, 1+r.Intn(api.MaxZones), 20)
		m, err := fare.Mend(f)
		if err != api.OK || fare.Check(m) != api.OK || !isNowhereDearer(m, f) || !isFair(m) {
			t.Fatalf("Mend(%v): %v %d", f, m, err)
		}
		wantFair(t, m, true)
		wantMend(t, m, m)
		wantFair(t, f, reflect.DeepEqual(m, f))
	}
}

// TestL4Greatest: no fair ones that are nowhere dearer than the old ones are anywhere dearer than the mended ones.
func TestL4Greatest(t *testing.T) {
	for zones, most := range map[int]int{1: 9, 2: 5, 3: 2} {
		var fair []api.Fares
		for f := range every(zones, most) {
			if isFair(f) {
				fair = append(fair, f)
			}
		}
		for f := range every(zones, most) {
			m, err := fare.Mend(f)
			if err != api.OK {
				t.Fatalf("Mend(%v): %d", f, err)
			}
			for _, g := range fair {
				if isNowhereDearer(g, f) && !isNowhereDearer(g, m) {
					t.Errorf("Mend(%v): %v, and %v are fair", f, m, g)
				}
			}
		}
	}
}

// told: all answers of fares.
func told(f api.Fares) string {
	a, e1 := fare.Fair(f)
	b, e2 := fare.Of(f, 0, len(f)-1, 30, api.HalfUp)
	c, e3 := fare.Mend(f)
	return fmt.Sprint(fare.Check(f), a, e1, b, e2, c, e3)
}

// TestP1AnyFares: no call panics, whatever stands in fares, and with an error there is nothing else.
func TestP1AnyFares(t *testing.T) {
	r := rand.New(rand.NewSource(5))
	for range 20000 {
		f := make(api.Fares, r.Intn(9))
		for a := range f {
			f[a] = make([]int, max(0, len(f)-a+r.Intn(11)/10-r.Intn(11)/10))
			for k := range f[a] {
				f[a][k] = r.Intn(100)
				if r.Intn(100) == 0 {
					f[a][k] = int(r.Uint64())
				}
			}
		}
		if is, err := fare.Fair(f); is && err != api.OK {
			t.Errorf("Fair(%v): %v %d", f, is, err)
		}
		if p, err := fare.Of(f, r.Intn(9)-1, r.Intn(9)-1, r.Intn(110)-5, r.Intn(6)); p != 0 && err != api.OK {
			t.Errorf("Of(%v): %d %d", f, p, err)
		}
		if m, err := fare.Mend(f); len(m) != 0 && err != api.OK {
			t.Errorf("Mend(%v): %v %d", f, m, err)
		}
	}
}

// TestP2OnlyRead: fares and the spare room behind them and their rows are as they were, and are not kept.
func TestP2OnlyRead(t *testing.T) {
	room := make(api.Fares, 9)
	for a := range room {
		room[a] = []int{50 - a, 40 + 3*a, 60, 70, 80 + a, 75, 90, 100, 110}
	}
	for zones := range len(room) {
		f := slices.Clone(room)
		prices := cloned(room)
		for a := range zones {
			f[a] = prices[a][:zones-a]
		}
		was := fmt.Sprint(f)
		first := told(f[:zones])
		m, _ := fare.Mend(f[:zones])
		mended := fmt.Sprint(m)
		if fmt.Sprint(f) != was || !reflect.DeepEqual(prices, room) {
			t.Errorf("of %d zones the fares are %v, with %v behind them", zones, f, prices)
		}
		for a := range prices {
			clear(prices[a])
		}
		clear(f)
		if fmt.Sprint(m) != mended {
			t.Errorf("mended fares are %v, and were %s", m, mended)
		}
		for a := range zones {
			f[a] = room[a][:zones-a]
		}
		if again := told(f[:zones]); again != first {
			t.Errorf("%s, and it was %s", again, first)
		}
	}
}

// TestP2RowsOfOneList: rows that share memory are read like others, and the answer's rows share none.
func TestP2RowsOfOneList(t *testing.T) {
	row := []int{4, 9, 5, 6, 8, 30}
	shared := make(api.Fares, len(row))
	for a := range shared {
		shared[a] = row[a:]
	}
	wantMend(t, shared, mendedOf(cloned(shared)))
	if !slices.Equal(row, []int{4, 9, 5, 6, 8, 30}) {
		t.Errorf("the row is %v", row)
	}
	m, _ := fare.Mend(shared)
	for a := range m {
		want := cloned(m)
		clear(want[a])
		m[a] = m[a][:cap(m[a])]
		clear(m[a])
		m[a] = m[a][:len(want[a])]
		if !reflect.DeepEqual(m, want) {
			t.Errorf("as row %d is cleared, the fares are %v", a, m)
		}
	}
	wantMend(t, shared, mendedOf(cloned(shared)))
}

// TestP3NothingIsKept: asked backward and by many at once, the answers are the same.
func TestP3NothingIsKept(t *testing.T) {
	r := rand.New(rand.NewSource(6))
	all, first := make([]api.Fares, 300), make([]string, 300)
	for i := range all {
		all[i] = drawn(r, r.Intn(api.MaxZones+2), 50)
		first[i] = told(all[i])
	}
	var asked sync.WaitGroup
	for range 4 {
		asked.Go(func() {
			for i := len(all) - 1; i >= 0; i-- {
				if again := told(all[i]); again != first[i] {
					t.Errorf("%s, and it was %s", again, first[i])
				}
			}
		})
	}
	asked.Wait()
}
