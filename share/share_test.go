package share_test

import (
	"fmt"
	"math"
	"math/big"
	"math/rand"
	"slices"
	"sync"
	"testing"

	"swinggate/api"
	"swinggate/share"
)

const most = api.MaxTotal

type byWeights func(int, []int) ([]int, api.Errno)

var (
	extremes  = []int{math.MinInt, math.MinInt + 1, math.MinInt32, math.MinInt32 * 1024, math.MaxInt32 * 1024, math.MaxInt / 2, math.MaxInt - 1, math.MaxInt}
	noTotals  = append([]int{-1, most + 1, math.MaxInt32, api.MaxPence}, extremes...)
	noWeights = noTotals
)

// both calls that share out by weights, by their names.
func both() map[string]byWeights {
	return map[string]byWeights{"Hamilton": share.Hamilton, "Jefferson": share.Jefferson}
}

func wantEven(t *testing.T, total, many int, l []int, e api.Errno) {
	t.Helper()
	if got, err := share.Even(total, many); !slices.Equal(got, l) || err != e {
		t.Errorf("Even(%d, %d): %v %d, and must be %v %d", total, many, got, err, l, e)
	}
}

func wantHamilton(t *testing.T, total int, weights, l []int) {
	t.Helper()
	if got, err := share.Hamilton(total, weights); !slices.Equal(got, l) || err != api.OK {
		t.Errorf("Hamilton(%d, %v): %v %d, and must be %v", total, weights, got, err, l)
	}
}

func wantJefferson(t *testing.T, total int, weights, l []int) {
	t.Helper()
	if got, err := share.Jefferson(total, weights); !slices.Equal(got, l) || err != api.OK {
		t.Errorf("Jefferson(%d, %v): %v %d, and must be %v", total, weights, got, err, l)
	}
}

// wantWrong: both calls answer that error, and nothing else.
func wantWrong(t *testing.T, total int, weights []int, e api.Errno) {
	t.Helper()
	for name, call := range both() {
		if got, err := call(total, weights); len(got) != 0 || err != e {
			t.Errorf("%s(%d, %v): %v %d, and must be an error %d", name, total, weights, got, err, e)
		}
	}
}

func sumOf(l []int) int {
	sum := 0
	for _, n := range l {
		sum += n
	}
	return sum
}

func repeated(n, many int) []int { return slices.Repeat([]int{n}, many) }

// drawn weights, of which not all are 0: small ones, which are often alike, and great ones, with some 0 among them.
func drawn(r *rand.Rand) []int {
	l := make([]int, 1+r.Intn(api.MaxShares))
	greatest := []int{3, 20, 1000, most}[r.Intn(4)]
	for i := range l {
		l[i] = r.Intn(greatest + 1)
	}
	l[r.Intn(len(l))] = 1 + r.Intn(greatest)
	return l
}

func TestG1Even(t *testing.T) {
	wantEven(t, 0, 1, []int{0}, api.OK)
	wantEven(t, 0, 3, []int{0, 0, 0}, api.OK)
	wantEven(t, 1, 3, []int{1, 0, 0}, api.OK)
	wantEven(t, 2, 3, []int{1, 1, 0}, api.OK)
	wantEven(t, 3, 3, []int{1, 1, 1}, api.OK)
	wantEven(t, 11, 4, []int{3, 3, 3, 2}, api.OK)
	wantEven(t, 1000, 7, []int{143, 143, 143, 143, 143, 143, 142}, api.OK)
	wantEven(t, api.MaxPence, 1, []int{api.MaxPence}, api.OK)
	wantEven(t, api.MaxPence-1, 2, []int{api.MaxPence / 2, api.MaxPence/2 - 1}, api.OK)
	wantEven(t, api.MaxPence, api.MaxShares, repeated(api.MaxPence/api.MaxShares, api.MaxShares), api.OK)
	wantEven(t, 5, api.MaxShares, append(repeated(1, 5), repeated(0, api.MaxShares-5)...), api.OK)
}

// TestG1DrawnParts: so many, falling by one at most from the first to the last, and all together the total.
func TestG1DrawnParts(t *testing.T) {
	r := rand.New(rand.NewSource(1))
	for range 20000 {
		total, many := r.Intn(api.MaxPence+1), 1+r.Intn(api.MaxShares)
		if r.Intn(2) == 0 {
			total = r.Intn(100)
		}
		l, err := share.Even(total, many)
		if len(l) != many || err != api.OK {
			t.Fatalf("Even(%d, %d): %v %d", total, many, l, err)
		}
		falling := slices.IsSortedFunc(l, func(a, b int) int { return b - a })
		if !falling || l[0]-l[many-1] > 1 || sumOf(l) != total {
			t.Errorf("Even(%d, %d): %v", total, many, l)
		}
	}
}

func TestG1Wrong(t *testing.T) {
	for _, total := range append([]int{-1, api.MaxPence + 1}, extremes...) {
		for _, many := range []int{0, 1, 2, api.MaxShares, api.MaxShares + 1} {
			wantEven(t, total, many, nil, api.ErrRange)
		}
	}
	for _, many := range append([]int{0, -1, api.MaxShares + 1, 1 << 20}, extremes...) {
		for _, total := range []int{-1, 0, 1, 100, api.MaxPence} {
			wantEven(t, total, many, nil, api.ErrRange)
		}
	}
}

func TestG2Hamilton(t *testing.T) {
	wantHamilton(t, 10, []int{6, 3, 1, 1}, []int{5, 3, 1, 1})
	wantHamilton(t, 10, []int{1, 1, 3, 6}, []int{1, 1, 3, 5})
	wantHamilton(t, 26, []int{21878, 9713, 4167, 3252, 1065}, []int{14, 6, 3, 2, 1})
	wantHamilton(t, 100, []int{47000, 16000, 15900, 12000, 6000, 3100}, []int{47, 16, 16, 12, 6, 3})
	wantHamilton(t, 10, []int{5, 3, 2}, []int{5, 3, 2})
	wantHamilton(t, 0, []int{5, 0, 2}, []int{0, 0, 0})
	wantHamilton(t, 7, []int{0, 0, 1, 0}, []int{0, 0, 7, 0})
}

// TestG2RestsAlike: the first ones have what is left, those of greater rests ahead of them.
func TestG2RestsAlike(t *testing.T) {
	wantHamilton(t, 1, []int{1, 1, 1}, []int{1, 0, 0})
	wantHamilton(t, 2, []int{1, 1, 1}, []int{1, 1, 0})
	wantHamilton(t, 5, []int{1, 1, 1}, []int{2, 2, 1})
	wantHamilton(t, 1, []int{0, 2, 2}, []int{0, 1, 0})
	wantHamilton(t, 3, []int{1, 1, 2, 2}, []int{1, 0, 1, 1})
	wantHamilton(t, 3, []int{2, 1, 2, 1}, []int{1, 1, 1, 0})
	wantHamilton(t, 5, repeated(7, api.MaxShares), append(repeated(1, 5), repeated(0, api.MaxShares-5)...))
}

func TestG2Edges(t *testing.T) {
	wantHamilton(t, most, []int{1}, []int{most})
	wantHamilton(t, most, []int{most}, []int{most})
	wantHamilton(t, most, []int{most, 1}, []int{most - 1, 1})
	wantHamilton(t, most, []int{1, most}, []int{1, most - 1})
	wantHamilton(t, 1, []int{1, most}, []int{0, 1})
	wantHamilton(t, most, repeated(most, api.MaxShares), repeated(most/api.MaxShares, api.MaxShares))
	wantHamilton(t, most-1, repeated(most, api.MaxShares), append(repeated(most/api.MaxShares, api.MaxShares-1), most/api.MaxShares-1))
}

// quotaOf the one at a place, as it is.
func quotaOf(total int, weights []int, i int) *big.Rat {
	return new(big.Rat).Mul(big.NewRat(int64(total), int64(sumOf(weights))), big.NewRat(int64(weights[i]), 1))
}

// hamiltonOf by the promise's own words: the greatest rest is looked for anew each time.
func hamiltonOf(total int, weights []int) []int {
	out, rests := make([]int, len(weights)), make([]*big.Rat, len(weights))
	for i := range weights {
		q := quotaOf(total, weights, i)
		down := new(big.Int).Div(q.Num(), q.Denom())
		out[i] = int(down.Int64())
		rests[i] = q.Sub(q, new(big.Rat).SetInt(down))
	}
	for sumOf(out) < total {
		next := 0
		for i := range rests {
			if rests[i].Cmp(rests[next]) > 0 {
				next = i
			}
		}
		out[next]++
		rests[next] = big.NewRat(-1, 1)
	}
	return out
}

func TestG2DrawnWeights(t *testing.T) {
	r := rand.New(rand.NewSource(2))
	for range 3000 {
		weights := drawn(r)
		total := r.Intn([]int{10, 100, most}[r.Intn(3)] + 1)
		wantHamilton(t, total, weights, hamiltonOf(total, weights))
	}
}

// TestG2Wrong: of Jefferson too, whose errors are the same.
func TestG2Wrong(t *testing.T) {
	for _, total := range noTotals {
		wantWrong(t, total, []int{1}, api.ErrRange)
		wantWrong(t, total, []int{6, 3, 1, 1}, api.ErrRange)
		wantWrong(t, total, repeated(most, api.MaxShares), api.ErrRange)
	}
	for _, w := range noWeights {
		for _, total := range []int{0, 1, most} {
			wantWrong(t, total, []int{w}, api.ErrRange)
			wantWrong(t, total, []int{w, 1}, api.ErrRange)
			wantWrong(t, total, append(repeated(1, api.MaxShares-1), w), api.ErrRange)
		}
	}
	for _, total := range []int{0, 1, 10, most} {
		wantWrong(t, total, nil, api.ErrNone)
		wantWrong(t, total, []int{}, api.ErrNone)
		wantWrong(t, total, []int{0}, api.ErrNone)
		wantWrong(t, total, repeated(0, api.MaxShares), api.ErrNone)
		wantWrong(t, total, repeated(1, api.MaxShares+1), api.ErrMany)
		wantWrong(t, total, repeated(1, 1000), api.ErrMany)
	}
}

// TestG2WhichTellsFirst: too many, then a number out of its range, then that all weights are 0.
func TestG2WhichTellsFirst(t *testing.T) {
	for _, x := range noTotals {
		wantWrong(t, x, repeated(0, api.MaxShares+1), api.ErrMany)
		wantWrong(t, x, repeated(x, api.MaxShares+1), api.ErrMany)
		wantWrong(t, 1, repeated(x, api.MaxShares+1), api.ErrMany)
		wantWrong(t, x, nil, api.ErrRange)
		wantWrong(t, x, []int{0, 0}, api.ErrRange)
		wantWrong(t, x, []int{x, 0}, api.ErrRange)
		wantWrong(t, 1, []int{0, x}, api.ErrRange)
	}
	wantWrong(t, 1, []int{-1, 1}, api.ErrRange)
	wantWrong(t, 1, []int{math.MinInt, math.MinInt}, api.ErrRange)
	wantWrong(t, 1, repeated(0, api.MaxShares+1), api.ErrMany)
}

func TestG3Jefferson(t *testing.T) {
	wantJefferson(t, 10, []int{6, 3, 1, 1}, []int{6, 3, 1, 0})
	wantJefferson(t, 10, []int{1, 1, 3, 6}, []int{1, 1, 3, 5})
	wantJefferson(t, 26, []int{21878, 9713, 4167, 3252, 1065}, []int{15, 6, 3, 2, 0})
	wantJefferson(t, 10, []int{5, 3, 2}, []int{5, 3, 2})
	wantJefferson(t, 0, []int{5, 0, 2}, []int{0, 0, 0})
	wantJefferson(t, 7, []int{0, 0, 1, 0}, []int{0, 0, 7, 0})
}

func TestG3Alike(t *testing.T) {
	wantJefferson(t, 1, []int{1, 1, 1}, []int{1, 0, 0})
	wantJefferson(t, 5, []int{1, 1, 1}, []int{2, 2, 1})
	wantJefferson(t, 1, []int{0, 2, 2}, []int{0, 1, 0})
	// A half of 2 is as great as 1, so the place decides, not the weight.
	wantJefferson(t, 2, []int{2, 1}, []int{2, 0})
	wantJefferson(t, 2, []int{1, 2}, []int{1, 1})
	wantJefferson(t, 5, repeated(7, api.MaxShares), append(repeated(1, 5), repeated(0, api.MaxShares-5)...))
}

func TestG3Edges(t *testing.T) {
	wantJefferson(t, most, []int{1}, []int{most})
	wantJefferson(t, most, []int{most}, []int{most})
	// The last one is as great for both, so the first has it.
	wantJefferson(t, most, []int{most, 1}, []int{most, 0})
	wantJefferson(t, most, []int{1, most}, []int{1, most - 1})
	wantJefferson(t, most-1, []int{1, most}, []int{0, most - 1})
	wantJefferson(t, most, repeated(most, api.MaxShares), repeated(most/api.MaxShares, api.MaxShares))
}

// isAhead: the one at i has its last one ahead of the next one of the one at k.
func isAhead(weights, has []int, i, k int) bool {
	order := big.NewRat(int64(weights[i]), int64(has[i])).Cmp(big.NewRat(int64(weights[k]), int64(has[k]+1)))
	return order > 0 || order == 0 && i < k
}

// wantInTurn: each last one came ahead of all the next ones. Of parts of one total, just those of Jefferson are so.
func wantInTurn(t *testing.T, total int, weights []int) {
	t.Helper()
	has, err := share.Jefferson(total, weights)
	if len(has) != len(weights) || sumOf(has) != total || err != api.OK {
		t.Fatalf("Jefferson(%d, %v): %v %d", total, weights, has, err)
	}
	for i := range has {
		for k := range has {
			if i != k && has[i] != 0 && (has[i] < 0 || !isAhead(weights, has, i, k)) {
				t.Errorf("Jefferson(%d, %v): %v: %d has too many, or %d too few", total, weights, has, i, k)
			}
		}
	}
}

func TestG3DrawnWeights(t *testing.T) {
	r := rand.New(rand.NewSource(3))
	for range 2000 {
		wantInTurn(t, r.Intn([]int{10, 100, 1000}[r.Intn(3)]+1), drawn(r))
	}
	for range 20 {
		wantInTurn(t, most-r.Intn(100), drawn(r))
	}
}

func TestG4AllIsSharedOut(t *testing.T) {
	r := rand.New(rand.NewSource(4))
	for range 3000 {
		weights, total := drawn(r), r.Intn(2000)
		for name, call := range both() {
			l, err := call(total, weights)
			if len(l) != len(weights) || sumOf(l) != total || slices.Min(l) < 0 || err != api.OK {
				t.Fatalf("%s(%d, %v): %v %d", name, total, weights, l, err)
			}
			for i, w := range weights {
				if w == 0 && l[i] != 0 {
					t.Errorf("%s(%d, %v): %v, and %d has no weight", name, total, weights, l, i)
				}
			}
		}
	}
}

// TestG4Quota: by Hamilton each part is less than one off its quota.
func TestG4Quota(t *testing.T) {
	r := rand.New(rand.NewSource(5))
	for range 3000 {
		weights, total := drawn(r), r.Intn(most+1)
		l, err := share.Hamilton(total, weights)
		if len(l) != len(weights) || err != api.OK {
			t.Fatalf("Hamilton(%d, %v): %v %d", total, weights, l, err)
		}
		for i := range l {
			off := new(big.Rat).Sub(big.NewRat(int64(l[i]), 1), quotaOf(total, weights, i))
			if off.Abs(off).Cmp(big.NewRat(1, 1)) >= 0 {
				t.Errorf("Hamilton(%d, %v): %v, and at %d it is %v off", total, weights, l, i, off)
			}
		}
	}
}

// TestG4NobodyLoses: by Jefferson, one more in all is one more for just one of them.
func TestG4NobodyLoses(t *testing.T) {
	r := rand.New(rand.NewSource(6))
	for range 100 {
		weights := drawn(r)
		was := repeated(0, len(weights))
		for total := range 150 {
			l, err := share.Jefferson(total, weights)
			if len(l) != len(was) || sumOf(l) != total || err != api.OK {
				t.Fatalf("Jefferson(%d, %v): %v %d", total, weights, l, err)
			}
			for i := range l {
				if l[i] < was[i] {
					t.Errorf("Jefferson(%d, %v): %v, and of one less %v", total, weights, l, was)
				}
			}
			was = l
		}
	}
}

// told: all answers of a list, and of a total.
func told(total int, weights []int) string {
	a, e1 := share.Even(total, len(weights))
	b, e2 := share.Hamilton(total, weights)
	c, e3 := share.Jefferson(total, weights)
	return fmt.Sprint(a, e1, b, e2, c, e3)
}

// TestP2OnlyRead: the list and the spare room behind it are as they were, and are not kept.
func TestP2OnlyRead(t *testing.T) {
	room := make([]int, 40)
	for i := range room {
		room[i] = 1 + i*i
	}
	was := slices.Clone(room)
	first := told(100, room[3:9])
	told(100, room[:0])
	told(100, room)
	if !slices.Equal(room, was) {
		t.Errorf("the list is %v", room)
	}
	var answers [][]int
	for _, call := range both() {
		l, _ := call(100, room[3:9])
		answers = append(answers, l)
	}
	before := fmt.Sprint(answers)
	clear(room)
	if after := fmt.Sprint(answers); after != before {
		t.Errorf("%s, and it was %s", after, before)
	}
	copy(room, was)
	if again := told(100, room[3:9]); again != first {
		t.Errorf("%s, and it was %s", again, first)
	}
}

// TestP2AnswersAreTheCallers: what is done to one is not seen in another, nor in what was handed in.
func TestP2AnswersAreTheCallers(t *testing.T) {
	weights := []int{6, 3, 1, 1}
	first := told(10, weights)
	even, _ := share.Even(10, 4)
	clear(even[:cap(even)])
	for _, call := range both() {
		l, _ := call(10, weights)
		clear(l[:cap(l)])
	}
	if again := told(10, weights); again != first {
		t.Errorf("%s, and it was %s", again, first)
	}
}

// TestP3NothingIsKept: asked backward and by many at once, the answers are the same.
func TestP3NothingIsKept(t *testing.T) {
	r := rand.New(rand.NewSource(7))
	totals, weights, first := make([]int, 200), make([][]int, 200), make([]string, 200)
	for i := range totals {
		totals[i], weights[i] = r.Intn(1000)-10, drawn(r)
		first[i] = told(totals[i], weights[i])
	}
	var all sync.WaitGroup
	for range 4 {
		all.Go(func() {
			for i := len(totals) - 1; i >= 0; i-- {
				if again := told(totals[i], weights[i]); again != first[i] {
					t.Errorf("%s, and it was %s", again, first[i])
				}
			}
		})
	}
	all.Wait()
}
