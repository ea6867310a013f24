package easter_test

import (
	"math"
	"sync"
	"testing"

	"swinggate/api"
	"swinggate/date"
	"swinggate/easter"
)

var extremes = []int{math.MinInt, math.MinInt + 1, math.MinInt32, -1 << 40, 1 << 40, math.MaxInt32, math.MaxInt - 1, math.MaxInt}

func wantSunday(t *testing.T, y, n int, e api.Errno) {
	t.Helper()
	if got, err := easter.Sunday(y); got != n || err != e {
		t.Errorf("Sunday(%d): %d %d, and must be %d %d", y, got, err, n, e)
	}
}

func wantFeast(t *testing.T, y, off, n int, e api.Errno) {
	t.Helper()
	if got, err := easter.Feast(y, off); got != n || err != e {
		t.Errorf("Feast(%d, %d): %d %d, and must be %d %d", y, off, got, err, n, e)
	}
}

func day(t *testing.T, y, m, d int) int {
	t.Helper()
	n, err := date.Day(api.Date{Y: y, M: m, D: d})
	if err != api.OK {
		t.Fatalf("there is no %d-%d-%d", y, m, d)
	}
	return n
}

// byMoon: Easter by another way than that of promise B1: the Sunday behind the full moon of the epact, in days from the first of March on.
func byMoon(y int) int {
	century := y/100 + 1
	skipped := 3*century/4 - 12
	moon := (8*century+5)/25 - 5
	sunday := 5*y/4 - skipped - 10
	epact := ((11*(y%19+1)+20+moon-skipped)%30 + 30) % 30
	if epact == 25 && y%19+1 > 11 || epact == 24 {
		epact++
	}
	full := 44 - epact
	if full < 21 {
		full += 30
	}
	return full + 7 - (sunday+full)%7
}

func TestB1EveryYear(t *testing.T) {
	for y := api.FirstEaster; y <= api.MaxYear; y++ {
		wantSunday(t, y, day(t, y, 3, 1)+byMoon(y)-1, api.OK)
	}
}

func TestB1KnownYears(t *testing.T) {
	for _, d := range []api.Date{{Y: 1583, M: 4, D: 10}, {Y: 1609, M: 4, D: 19}, {Y: 1818, M: 3, D: 22}, {Y: 1943, M: 4, D: 25}, {Y: 1954, M: 4, D: 18}, {Y: 1981, M: 4, D: 19}, {Y: 2000, M: 4, D: 23}, {Y: 2024, M: 3, D: 31}, {Y: 2025, M: 4, D: 20}, {Y: 2038, M: 4, D: 25}, {Y: 2049, M: 4, D: 18}, {Y: 2076, M: 4, D: 19}, {Y: 2285, M: 3, D: 22}} {
		wantSunday(t, d.Y, day(t, d.Y, d.M, d.D), api.OK)
	}
}

func TestB1NoSuchYear(t *testing.T) {
	for _, y := range append([]int{0, 1, -1, -2000, api.FirstEaster - 1, api.MaxYear + 1}, extremes...) {
		wantSunday(t, y, 0, api.ErrRange)
	}
}

func TestB2EveryOffset(t *testing.T) {
	for _, y := range []int{api.FirstEaster, 1818, 2000, 2024, 2038, api.MaxYear} {
		n, _ := easter.Sunday(y)
		for off := -api.MaxOff; off <= api.MaxOff; off++ {
			wantFeast(t, y, off, n+off, api.OK)
		}
	}
	wantFeast(t, 2024, -2, day(t, 2024, 3, 29), api.OK)
	wantFeast(t, 2024, 39, day(t, 2024, 5, 9), api.OK)
	wantFeast(t, 2024, 49, day(t, 2024, 5, 19), api.OK)
}

func TestB2Wrong(t *testing.T) {
	for _, off := range append([]int{-api.MaxOff - 1, api.MaxOff + 1}, extremes...) {
		wantFeast(t, 2024, off, 0, api.ErrRange)
		wantFeast(t, 1582, off, 0, api.ErrRange)
	}
	for _, y := range append([]int{0, api.FirstEaster - 1, api.MaxYear + 1}, extremes...) {
		wantFeast(t, y, 0, 0, api.ErrRange)
		wantFeast(t, y, api.MaxOff, 0, api.ErrRange)
	}
}

func TestB3(t *testing.T) {
	seen := map[int]int{}
	before := 0
	for y := api.FirstEaster; y <= api.MaxYear; y++ {
		n, _ := easter.Sunday(y)
		if w, _ := date.Week(n); w.Day != 7 {
			t.Errorf("Easter of %d is no Sunday: %v", y, w)
		}
		if n < day(t, y, 3, 22) || n > day(t, y, 4, 25) {
			t.Errorf("Easter of %d is day %d", y, n)
		}
		if before > 0 {
			seen[n-before]++
		}
		before = n
	}
	if len(seen) != 4 || seen[50*7] == 0 || seen[51*7] == 0 || seen[54*7] == 0 || seen[55*7] == 0 {
		t.Errorf("days from one to the next, and how often: %v", seen)
	}
}

// TestP1ErrorsComeAlone: with an error no day is told, and nothing panics, whatever is asked.
func TestP1ErrorsComeAlone(t *testing.T) {
	years := append([]int{-1, 0, 1582, 1583, 2024, 9999, 10000}, extremes...)
	offs := append([]int{-101, -100, -1, 0, 1, 100, 101}, extremes...)
	for _, y := range years {
		if n, err := easter.Sunday(y); (n == 0) != (err != api.OK) {
			t.Errorf("Sunday(%d): %d %d", y, n, err)
		}
		for _, off := range offs {
			if n, err := easter.Feast(y, off); (n == 0) != (err != api.OK) {
				t.Errorf("Feast(%d, %d): %d %d", y, off, n, err)
			}
		}
	}
}

// TestP3NothingIsKept: asked forward, backward and by many at once, the answers are the same.
func TestP3NothingIsKept(t *testing.T) {
	first := map[int]int{}
	for y := 1500; y <= 10050; y++ {
		first[y], _ = easter.Feast(y, y%100)
	}
	var all sync.WaitGroup
	for range 4 {
		all.Go(func() {
			for y := 10050; y >= 1500; y-- {
				if n, _ := easter.Feast(y, y%100); n != first[y] {
					t.Errorf("Feast(%d, %d): %d, and it was %d", y, y%100, n, first[y])
				}
			}
		})
	}
	all.Wait()
}
