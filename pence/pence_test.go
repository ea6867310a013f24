package pence_test

import (
	"fmt"
	"math"
	"math/big"
	"math/rand"
	"slices"
	"sync"
	"testing"

	"swinggate/api"
	"swinggate/pence"
)

const most = api.MaxPence

var (
	extremes  = []int{math.MinInt, math.MinInt + 1, math.MinInt32 * 1024, math.MaxInt32 * 1024, math.MaxInt / 2, math.MaxInt - 1, math.MaxInt}
	noAmounts = append([]int{most + 1, -most - 1}, extremes...)
	ways      = []int{api.Down, api.Up, api.HalfUp, api.HalfEven}
	noWays    = append([]int{0, -1, 5}, extremes...)
	noParts   = append([]int{-1, api.MaxPart + 1}, extremes...)
)

func wantAdd(t *testing.T, a, b, sum int, e api.Errno) {
	t.Helper()
	if got, err := pence.Add(a, b); got != sum || err != e {
		t.Errorf("Add(%d, %d): %d %d, and must be %d %d", a, b, got, err, sum, e)
	}
	if got, err := pence.Add(b, a); got != sum || err != e {
		t.Errorf("Add(%d, %d): %d %d, and must be %d %d", b, a, got, err, sum, e)
	}
}

func wantSum(t *testing.T, l []int, sum int, e api.Errno) {
	t.Helper()
	if got, err := pence.Sum(l); got != sum || err != e {
		t.Errorf("Sum(%v): %d %d, and must be %d %d", l, got, err, sum, e)
	}
}

func wantPart(t *testing.T, p, num, den, way, part int, e api.Errno) {
	t.Helper()
	if got, err := pence.Part(p, num, den, way); got != part || err != e {
		t.Errorf("Part(%d, %d, %d, %d): %d %d, and must be %d %d", p, num, den, way, got, err, part, e)
	}
}

func isAmount(p int) bool { return -most <= p && p <= most }

// repeated: so many of an amount.
func repeated(p, many int) []int { return slices.Repeat([]int{p}, many) }

func TestF1Add(t *testing.T) {
	wantAdd(t, 0, 0, 0, api.OK)
	wantAdd(t, 1999, 1, 2000, api.OK)
	wantAdd(t, -500, 200, -300, api.OK)
	wantAdd(t, most, 0, most, api.OK)
	wantAdd(t, -most, 0, -most, api.OK)
	wantAdd(t, most, -most, 0, api.OK)
	wantAdd(t, most-1, 1, most, api.OK)
	wantAdd(t, 1-most, -1, -most, api.OK)
	wantAdd(t, most, 1, 0, api.ErrOver)
	wantAdd(t, most, most, 0, api.ErrOver)
	wantAdd(t, -most, -1, 0, api.ErrOver)
	wantAdd(t, -most, -most, 0, api.ErrOver)
}

// TestF1NoAmount: one that is none tells, though the sum would be one, or would run over too.
func TestF1NoAmount(t *testing.T) {
	for _, p := range noAmounts {
		for _, q := range []int{0, 1, -1, most, -most, p} {
			wantAdd(t, p, q, 0, api.ErrRange)
			wantSum(t, []int{p, q}, 0, api.ErrRange)
			wantSum(t, []int{q, p}, 0, api.ErrRange)
			wantSum(t, []int{most, most, q, p, 1}, 0, api.ErrRange)
		}
		wantSum(t, []int{p}, 0, api.ErrRange)
		wantSum(t, append(repeated(0, api.MaxShares-1), p), 0, api.ErrRange)
	}
}

func TestF1Sum(t *testing.T) {
	wantSum(t, nil, 0, api.OK)
	wantSum(t, []int{}, 0, api.OK)
	wantSum(t, []int{7}, 7, api.OK)
	wantSum(t, []int{500, 2000, -300, 0}, 2200, api.OK)
	wantSum(t, repeated(3, api.MaxShares), 3*api.MaxShares, api.OK)
	wantSum(t, repeated(most/api.MaxShares, api.MaxShares), most, api.OK)
	wantSum(t, repeated(-most/api.MaxShares, api.MaxShares), -most, api.OK)
}

// TestF1SumOver: only the sum of all tells, whatever lies between.
func TestF1SumOver(t *testing.T) {
	wantSum(t, []int{most, most, -most}, most, api.OK)
	wantSum(t, []int{-most, -most, most}, -most, api.OK)
	wantSum(t, append(repeated(most, api.MaxShares/2), repeated(-most, api.MaxShares/2)...), 0, api.OK)
	wantSum(t, append(repeated(-most, api.MaxShares/2), repeated(most, api.MaxShares/2)...), 0, api.OK)
	wantSum(t, []int{most, 1}, 0, api.ErrOver)
	wantSum(t, []int{-most, -1}, 0, api.ErrOver)
	wantSum(t, repeated(most, api.MaxShares), 0, api.ErrOver)
	wantSum(t, repeated(-most, api.MaxShares), 0, api.ErrOver)
}

// TestF1SumOfMany: too many tell ahead of what they are.
func TestF1SumOfMany(t *testing.T) {
	for _, p := range append([]int{0, 1, most}, noAmounts...) {
		for _, many := range []int{api.MaxShares + 1, 1000} {
			wantSum(t, repeated(p, many), 0, api.ErrMany)
		}
	}
}

func TestF1DrawnSums(t *testing.T) {
	r := rand.New(rand.NewSource(1))
	for range 20000 {
		l := make([]int, r.Intn(api.MaxShares+1))
		all := 0
		for i := range l {
			l[i] = r.Intn(2*most+1) - most
			all += l[i]
		}
		if isAmount(all) {
			wantSum(t, l, all, api.OK)
		} else {
			wantSum(t, l, 0, api.ErrOver)
		}
		if len(l) >= 2 {
			a, b := l[0], l[1]
			if isAmount(a + b) {
				wantAdd(t, a, b, a+b, api.OK)
			} else {
				wantAdd(t, a, b, 0, api.ErrOver)
			}
		}
	}
}

func TestF2Ways(t *testing.T) {
	// Each row: an amount, and a half, a third and two thirds of it, by each way.
	for _, x := range [][13]int{
		{0, 0, 0, 0, 0, 0, 0, 0, 0, 0, 0, 0, 0},
		{1, 0, 1, 1, 0, 0, 1, 0, 0, 0, 1, 1, 1},
		{3, 1, 2, 2, 2, 1, 1, 1, 1, 2, 2, 2, 2},
		{4, 2, 2, 2, 2, 1, 2, 1, 1, 2, 3, 3, 3},
		{5, 2, 3, 3, 2, 1, 2, 2, 2, 3, 4, 3, 3},
		{7, 3, 4, 4, 4, 2, 3, 2, 2, 4, 5, 5, 5},
	} {
		for i, want := range x[1:] {
			q := [][2]int{{1, 2}, {1, 3}, {2, 3}}[i/4]
			wantPart(t, x[0], q[0], q[1], ways[i%4], want, api.OK)
			wantPart(t, -x[0], q[0], q[1], ways[i%4], -want, api.OK)
		}
	}
}

func TestF2Whole(t *testing.T) {
	for _, way := range ways {
		for _, p := range []int{0, 1, -1, 999, -999, most, -most} {
			wantPart(t, p, 0, 1, way, 0, api.OK)
			wantPart(t, p, 0, api.MaxPart, way, 0, api.OK)
			wantPart(t, p, 1, 1, way, p, api.OK)
			wantPart(t, p, api.MaxPart, api.MaxPart, way, p, api.OK)
		}
		wantPart(t, 2000, 150, 100, way, 3000, api.OK)
		wantPart(t, 9, api.MaxPart, 1, way, 900000, api.OK)
	}
}

// rounded by a way, in numbers of any size: of the two whole ones about it, which one the way's own words take.
func rounded(p, num, den, way int) *big.Int {
	exact := big.NewRat(int64(p)*int64(num), int64(den))
	low := new(big.Int).Div(exact.Num(), exact.Denom())
	if exact.IsInt() {
		return low
	}
	high := new(big.Int).Add(low, big.NewInt(1))
	near, far := low, high
	if exact.Sign() < 0 {
		near, far = high, low
	}
	toLow := new(big.Rat).Sub(exact, new(big.Rat).SetInt(low))
	half := toLow.Cmp(big.NewRat(1, 2))
	switch {
	case way == api.Down:
		return near
	case way == api.Up:
		return far
	case half < 0:
		return low
	case half > 0:
		return high
	case way == api.HalfUp:
		return far
	case low.Bit(0) == 0:
		return low
	}
	return high
}

func wantRounded(t *testing.T, p, num, den int) {
	t.Helper()
	for _, way := range ways {
		want := int(rounded(p, num, den, way).Int64())
		if isAmount(want) {
			wantPart(t, p, num, den, way, want, api.OK)
		} else {
			wantPart(t, p, num, den, way, 0, api.ErrOver)
		}
	}
}

func TestF2EverySmallPart(t *testing.T) {
	for p := -25; p <= 25; p++ {
		for num := range 13 {
			for den := 1; den <= 12; den++ {
				wantRounded(t, p, num, den)
			}
		}
	}
}

func TestF2DrawnParts(t *testing.T) {
	r := rand.New(rand.NewSource(2))
	for range 20000 {
		p := r.Intn(2*most+1) - most
		if r.Intn(2) == 0 {
			p = r.Intn(2001) - 1000
		}
		num, den := r.Intn(api.MaxPart+1), 1+r.Intn(api.MaxPart)
		if r.Intn(2) == 0 {
			den = 2 * (1 + r.Intn(10))
		}
		wantRounded(t, p, num, den)
	}
}

// TestF2Over: what is rounded tells, so the way decides about the last amount.
func TestF2Over(t *testing.T) {
	for _, way := range ways {
		for _, p := range []int{most, -most} {
			wantPart(t, p, api.MaxPart, 1, way, 0, api.ErrOver)
			wantPart(t, p, 3, 2, way, 0, api.ErrOver)
			wantPart(t, p, api.MaxPart, api.MaxPart-1, way, 0, api.ErrOver)
		}
		wantPart(t, most/2, 2, 1, way, most, api.OK)
		wantPart(t, most/2+1, 2, 1, way, 0, api.ErrOver)
		wantPart(t, -most/2-1, 2, 1, way, 0, api.ErrOver)
	}
	// Three halves of this are the last amount and a half, and the last amount is even.
	p := (2*most + 1) / 3
	for _, sign := range []int{1, -1} {
		wantPart(t, sign*p, 3, 2, api.Down, sign*most, api.OK)
		wantPart(t, sign*p, 3, 2, api.HalfEven, sign*most, api.OK)
		wantPart(t, sign*p, 3, 2, api.HalfUp, 0, api.ErrOver)
		wantPart(t, sign*p, 3, 2, api.Up, 0, api.ErrOver)
	}
}

func TestF2WrongParts(t *testing.T) {
	for _, way := range ways {
		for _, p := range []int{0, 5, most, -most} {
			for _, x := range append([]int{0}, noParts...) {
				wantPart(t, p, 1, x, way, 0, api.ErrRange)
				wantPart(t, p, api.MaxPart, x, way, 0, api.ErrRange)
			}
			for _, x := range noParts {
				wantPart(t, p, x, 1, way, 0, api.ErrRange)
				wantPart(t, p, x, x, way, 0, api.ErrRange)
			}
		}
	}
}

// TestF2WhichTellsFirst: no amount, then no way, then no part, then what runs over.
func TestF2WhichTellsFirst(t *testing.T) {
	for _, way := range noWays {
		for _, p := range noAmounts {
			wantPart(t, p, 1, 2, way, 0, api.ErrRange)
			wantPart(t, p, -1, 0, way, 0, api.ErrRange)
		}
		for _, p := range []int{0, 1, -1, most, -most} {
			wantPart(t, p, 1, 2, way, 0, api.ErrKind)
			wantPart(t, p, api.MaxPart, 1, way, 0, api.ErrKind)
			for _, x := range noParts {
				wantPart(t, p, x, 1, way, 0, api.ErrKind)
				wantPart(t, p, 1, x, way, 0, api.ErrKind)
			}
		}
	}
	for _, way := range ways {
		for _, p := range noAmounts {
			wantPart(t, p, 0, 1, way, 0, api.ErrRange)
			wantPart(t, p, 1, api.MaxPart, way, 0, api.ErrRange)
		}
	}
}

// TestF3LessThanAPennyOff: and to the nearest, half a penny at most.
func TestF3LessThanAPennyOff(t *testing.T) {
	r := rand.New(rand.NewSource(3))
	for range 20000 {
		p, num, den := r.Intn(2000001)-1000000, r.Intn(api.MaxPart+1), 1+r.Intn(api.MaxPart)
		if r.Intn(2) == 0 {
			p, den = p/1000, 2*(1+r.Intn(10))
		}
		for _, way := range ways {
			got, err := pence.Part(p, num, den, way)
			off := got*den - p*num
			off = max(off, -off)
			nearest := way == api.HalfUp || way == api.HalfEven
			if err != api.OK || off >= den || nearest && 2*off > den {
				t.Errorf("Part(%d, %d, %d, %d): %d %d, which is %d / %d off", p, num, den, way, got, err, off, den)
			}
		}
	}
}

// told: all answers of a list and some numbers.
func told(l []int, p, num, den, way int) string {
	sum, e1 := pence.Sum(l)
	both, e2 := pence.Add(p, num)
	part, e3 := pence.Part(p, num, den, way)
	return fmt.Sprint(sum, e1, both, e2, part, e3)
}

// TestP2OnlyRead: the list and the spare room behind it are as they were.
func TestP2OnlyRead(t *testing.T) {
	room := make([]int, 40)
	for i := range room {
		room[i] = i * i
	}
	was := slices.Clone(room)
	wantSum(t, room[3:9], 9+16+25+36+49+64, api.OK)
	wantSum(t, room[:33], 0, api.ErrMany)
	if !slices.Equal(room, was) {
		t.Errorf("the list is %v", room)
	}
	room[4] = 17
	wantSum(t, room[3:9], 9+17+25+36+49+64, api.OK)
}

// TestP3NothingIsKept: asked backward and by many at once, the answers are the same.
func TestP3NothingIsKept(t *testing.T) {
	r := rand.New(rand.NewSource(4))
	numbers, first := make([][]int, 200), make([]string, 200)
	ask := func(i int) string {
		l := numbers[i]
		return told(l, l[0], l[1], l[2], l[3]%6)
	}
	for i := range numbers {
		numbers[i] = make([]int, 4+r.Intn(30))
		for k := range numbers[i] {
			numbers[i][k] = r.Intn(api.MaxPart + 3)
		}
		first[i] = ask(i)
	}
	var all sync.WaitGroup
	for range 4 {
		all.Go(func() {
			for i := len(numbers) - 1; i >= 0; i-- {
				if again := ask(i); again != first[i] {
					t.Errorf("%s, and it was %s", again, first[i])
				}
			}
		})
	}
	all.Wait()
}
