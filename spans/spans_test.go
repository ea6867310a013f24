package spans_test

import (
	"fmt"
	"math"
	"math/rand"
	"slices"
	"sync"
	"testing"

	"swinggate/api"
	"swinggate/spans"
)

// list of spans by their numbers, two by two.
func list(numbers ...int) []api.Span {
	var out []api.Span
	for i := 0; i+1 < len(numbers); i += 2 {
		out = append(out, api.Span{From: numbers[i], To: numbers[i+1]})
	}
	return out
}

// comb of spans of so many days, one each step.
func comb(count, from, days, step int) []api.Span {
	var out []api.Span
	for i := range count {
		out = append(out, api.Span{From: from + i*step, To: from + i*step + days})
	}
	return out
}

func wantCheck(t *testing.T, l []api.Span, e api.Errno) {
	t.Helper()
	if err := spans.Check(l); err != e {
		t.Errorf("Check(%v): %d, and must be %d", l, err, e)
	}
}

func wantHas(t *testing.T, l []api.Span, n int, is bool, e api.Errno) {
	t.Helper()
	if got, err := spans.Has(l, n); got != is || err != e {
		t.Errorf("Has(%v, %d): %v %d, and must be %v %d", l, n, got, err, is, e)
	}
}

func wantSize(t *testing.T, l []api.Span, n int, e api.Errno) {
	t.Helper()
	if got, err := spans.Size(l); got != n || err != e {
		t.Errorf("Size(%v): %d %d, and must be %d %d", l, got, err, n, e)
	}
}

// wantSet: what a call answered is that set.
func wantSet(t *testing.T, got []api.Span, err api.Errno, want []api.Span, e api.Errno) {
	t.Helper()
	if !slices.Equal(got, want) || err != e {
		t.Errorf("it is %v %d, and must be %v %d", got, err, want, e)
	}
}

func wantOf(t *testing.T, l, want []api.Span, e api.Errno) {
	t.Helper()
	got, err := spans.Of(l)
	wantSet(t, got, err, want, e)
}

func TestD1Check(t *testing.T) {
	for _, l := range [][]api.Span{nil, {}, list(1, 2), list(1, 5, 6, 9), list(-4, -1, 0, 2), list(-api.MaxDay, api.MaxDay), list(-api.MaxDay, 1-api.MaxDay, api.MaxDay-1, api.MaxDay), comb(api.MaxSpans, 0, 1, 2)} {
		wantCheck(t, l, api.OK)
	}
	wantCheck(t, comb(api.MaxSpans+1, 0, 1, 2), api.ErrMany)
	for _, l := range [][]api.Span{list(-api.MaxDay-1, 0), list(0, api.MaxDay+1), list(api.MaxDay+1, 0), list(0, -api.MaxDay-1), list(math.MinInt, math.MaxInt), list(1, 2, math.MaxInt, math.MinInt)} {
		wantCheck(t, l, api.ErrRange)
	}
	for _, l := range [][]api.Span{list(0, 0), list(5, 4), list(1, 2, 4, 4), list(api.MaxDay, -api.MaxDay)} {
		wantCheck(t, l, api.ErrForm)
	}
	for _, l := range [][]api.Span{list(1, 3, 3, 5), list(1, 3, 2, 5), list(4, 6, 1, 2), list(1, 9, 2, 3), list(1, 2, 1, 2), list(1, 2, 4, 5, 5, 6)} {
		wantCheck(t, l, api.ErrState)
	}
}

// TestD1FirstTells: how many ahead of spans; the first span of which something is wrong; of that one range, form, state.
func TestD1FirstTells(t *testing.T) {
	wantCheck(t, make([]api.Span, api.MaxSpans+1), api.ErrMany)
	wantCheck(t, make([]api.Span, api.MaxSpans), api.ErrForm)
	wantCheck(t, list(5, 5, 0, api.MaxDay+1), api.ErrForm)
	wantCheck(t, list(5, 6, 6, 7, 0, api.MaxDay+1), api.ErrState)
	wantCheck(t, list(5, 6, api.MaxDay+1, api.MaxDay, 8, 8), api.ErrRange)
	wantCheck(t, list(5, 6, 4, 4), api.ErrForm)
	wantCheck(t, list(5, 6, 5, api.MaxDay+1), api.ErrRange)
	wantOf(t, list(5, 4, 0, api.MaxDay+1), nil, api.ErrForm)
	wantOf(t, list(0, 1, api.MaxDay+1, 0, 5, 4), nil, api.ErrRange)
}

func TestD1Of(t *testing.T) {
	wantOf(t, nil, nil, api.OK)
	wantOf(t, list(5, 5), nil, api.OK)
	wantOf(t, make([]api.Span, api.MaxSpans), nil, api.OK)
	wantOf(t, list(1, 3, 3, 5), list(1, 5), api.OK)
	wantOf(t, list(3, 5, 1, 3), list(1, 5), api.OK)
	wantOf(t, list(1, 3, 4, 5), list(1, 3, 4, 5), api.OK)
	wantOf(t, list(4, 6, 1, 2), list(1, 2, 4, 6), api.OK)
	wantOf(t, list(1, 9, 2, 3, 8, 12), list(1, 12), api.OK)
	wantOf(t, list(1, 9, 2, 3, 4, 4, 20, 20, 10, 11), list(1, 9, 10, 11), api.OK)
	wantOf(t, list(0, api.MaxDay, -api.MaxDay, 0), list(-api.MaxDay, api.MaxDay), api.OK)
	wantOf(t, list(api.MaxDay, api.MaxDay), nil, api.OK)
	wantOf(t, list(1, 3, 3, 3, 4, 5), list(1, 3, 4, 5), api.OK)
	falling := comb(api.MaxSpans, 0, 1, 2)
	slices.Reverse(falling)
	wantOf(t, falling, comb(api.MaxSpans, 0, 1, 2), api.OK)
}

func TestD1OfWrong(t *testing.T) {
	wantOf(t, make([]api.Span, api.MaxSpans+1), nil, api.ErrMany)
	wantOf(t, list(1, 2, 5, 4), nil, api.ErrForm)
	for _, l := range [][]api.Span{list(-api.MaxDay-1, 0), list(0, api.MaxDay+1), list(api.MaxDay+1, api.MaxDay+1), list(math.MaxInt, math.MinInt)} {
		wantOf(t, l, nil, api.ErrRange)
	}
}

func TestD2Has(t *testing.T) {
	l := list(-4, -1, 0, 2, 5, 6)
	for n := -8; n <= 9; n++ {
		wantHas(t, l, n, slices.Contains([]int{-4, -3, -2, 0, 1, 5}, n), api.OK)
	}
	all := list(-api.MaxDay, api.MaxDay)
	wantHas(t, all, -api.MaxDay, true, api.OK)
	wantHas(t, all, api.MaxDay-1, true, api.OK)
	for _, n := range []int{-api.MaxDay - 1, api.MaxDay, math.MinInt, math.MaxInt} {
		wantHas(t, all, n, false, api.OK)
		wantHas(t, nil, n, false, api.OK)
	}
}

func TestD2Size(t *testing.T) {
	wantSize(t, nil, 0, api.OK)
	wantSize(t, list(1, 2), 1, api.OK)
	wantSize(t, list(-4, -1, 0, 2, 5, 6), 6, api.OK)
	wantSize(t, list(-api.MaxDay, api.MaxDay), 2*api.MaxDay, api.OK)
	wantSize(t, list(-api.MaxDay, 0, 1, api.MaxDay), 2*api.MaxDay-1, api.OK)
}

// TestD2TooMany: an answer of MaxSpans is told, one of more is not.
func TestD2TooMany(t *testing.T) {
	const most = api.MaxSpans
	got, err := spans.Union(comb(most/2, 0, 1, 4), comb(most/2, 2, 1, 4))
	wantSet(t, got, err, comb(most, 0, 1, 2), api.OK)
	got, err = spans.Union(comb(most/2, 0, 1, 4), comb(most/2+1, 2, 1, 4))
	wantSet(t, got, err, nil, api.ErrMany)
	got, err = spans.Union(comb(most, 0, 1, 2), comb(most, 1, 1, 2))
	wantSet(t, got, err, list(0, 2*most), api.OK)
	got, err = spans.Minus(list(0, 2*most), comb(most, 1, 1, 2))
	wantSet(t, got, err, comb(most, 0, 1, 2), api.OK)
	got, err = spans.Minus(list(0, 2*most+1), comb(most, 1, 1, 2))
	wantSet(t, got, err, nil, api.ErrMany)
	got, err = spans.Meet(comb(most, 0, 3, 4), comb(most, 2, 3, 4))
	wantSet(t, got, err, nil, api.ErrMany)
	got, err = spans.Meet(comb(most, 0, 3, 4), list(0, 4*most))
	wantSet(t, got, err, comb(most, 0, 3, 4), api.OK)
}

// TestD2CheckOfBoth: of a, then of b, and ahead of how many the answer would have.
func TestD2CheckOfBoth(t *testing.T) {
	many, span, form, state := make([]api.Span, api.MaxSpans+1), list(0, api.MaxDay+1), list(1, 1), list(1, 3, 3, 5)
	wrong := [][]api.Span{many, span, form, state}
	good := [][]api.Span{nil, list(1, 5), comb(api.MaxSpans, 0, 1, 2)}
	for _, a := range wrong {
		e := spans.Check(a)
		wantHas(t, a, 1, false, e)
		wantSize(t, a, 0, e)
		for _, b := range append(good, wrong...) {
			wantAll(t, a, b, e)
		}
		for _, b := range good {
			wantAll(t, b, a, e)
		}
	}
}

func wantAll(t *testing.T, a, b []api.Span, e api.Errno) {
	t.Helper()
	got, err := spans.Union(a, b)
	wantSet(t, got, err, nil, e)
	got, err = spans.Meet(a, b)
	wantSet(t, got, err, nil, e)
	got, err = spans.Minus(a, b)
	wantSet(t, got, err, nil, e)
}

// setOf bits, one for each day from -5 to 6: a set that is told by its days alone.
func setOf(bits int) []api.Span {
	var out []api.Span
	for n := 0; n < 12; n++ {
		if bits>>n&1 == 0 {
			continue
		}
		from := n
		for bits>>n&1 == 1 {
			n++
		}
		out = append(out, api.Span{From: from - 5, To: n - 5})
	}
	return out
}

// TestD2EveryTwoSets of a few days, and of drawn ones of more.
func TestD2EveryTwoSets(t *testing.T) {
	for a := range 1 << 6 {
		for b := range 1 << 6 {
			wantAlgebra(t, a, b)
		}
	}
	r := rand.New(rand.NewSource(1))
	for range 20000 {
		wantAlgebra(t, r.Intn(1<<12), r.Intn(1<<12))
	}
}

func wantAlgebra(t *testing.T, a, b int) {
	t.Helper()
	got, err := spans.Union(setOf(a), setOf(b))
	wantSet(t, got, err, setOf(a|b), api.OK)
	got, err = spans.Meet(setOf(a), setOf(b))
	wantSet(t, got, err, setOf(a&b), api.OK)
	got, err = spans.Minus(setOf(a), setOf(b))
	wantSet(t, got, err, setOf(a&^b), api.OK)
}

// TestD3OneForm: however the days of a set come, by Of or by the algebra, they are the same spans, and of their form.
func TestD3OneForm(t *testing.T) {
	r := rand.New(rand.NewSource(2))
	for range 5000 {
		var l []api.Span
		bits := 0
		for range r.Intn(9) {
			from := r.Intn(12)
			to := from + r.Intn(13-from)
			l = append(l, api.Span{From: from - 5, To: to - 5})
			bits |= 1<<to - 1<<from
		}
		wantOf(t, l, setOf(bits), api.OK)
		wantCheck(t, setOf(bits), api.OK)
		wantOf(t, setOf(bits), setOf(bits), api.OK)
		for n := range 12 {
			wantHas(t, setOf(bits), n-5, bits>>n&1 == 1, api.OK)
		}
	}
}

// told: all answers of two sets and a day.
func told(a, b []api.Span, n int) string {
	of, e1 := spans.Of(a)
	is, e2 := spans.Has(a, n)
	x, e3 := spans.Union(a, b)
	y, e4 := spans.Meet(a, b)
	z, e5 := spans.Minus(a, b)
	size, e6 := spans.Size(a)
	return fmt.Sprint(spans.Check(a), of, e1, is, e2, x, e3, y, e4, z, e5, size, e6)
}

// TestP2OnlyRead: what is handed in and the spare room behind it are as they were, whatever is done with the answers.
func TestP2OnlyRead(t *testing.T) {
	room := append(comb(8, 0, 2, 4), list(9, 5, 3, 3, 1, 4)...)
	was := slices.Clone(room)
	for i := range room {
		for k := i; k <= len(room); k++ {
			a := room[i:k]
			told(a, a, 5)
			told(a, nil, 5)
			told(nil, a, 5)
			for _, call := range []func(a, b []api.Span) ([]api.Span, api.Errno){spans.Union, spans.Meet, spans.Minus} {
				l, _ := call(a, nil)
				clear(l[:cap(l)])
				l, _ = call(nil, a)
				clear(l[:cap(l)])
			}
			l, _ := spans.Of(a)
			clear(l[:cap(l)])
			if !slices.Equal(room, was) {
				t.Fatalf("it is %v, and was %v", room, was)
			}
		}
	}
}

// TestP3NothingIsKept: asked backward and by many at once, the answers are the same.
func TestP3NothingIsKept(t *testing.T) {
	const count = 300
	var first [count]string
	ask := func(i int) string { return told(setOf(i*37%4096), setOf(i*91%4096), i%14-6) }
	for i := range count {
		first[i] = ask(i)
	}
	var all sync.WaitGroup
	for range 4 {
		all.Go(func() {
			for i := count - 1; i >= 0; i-- {
				if again := ask(i); again != first[i] {
					t.Errorf("%s, and it was %s", again, first[i])
				}
			}
		})
	}
	all.Wait()
}
