package damm_test

import (
	"fmt"
	"math"
	"math/rand"
	"strings"
	"sync"
	"testing"

	"swinggate/api"
	"swinggate/damm"
)

// rows of the document's table, as numbers, so that they lean on no text of the project.
var rows = [10][10]int{
	{0, 3, 1, 7, 5, 9, 8, 6, 4, 2},
	{7, 0, 9, 2, 1, 5, 4, 8, 6, 3},
	{4, 2, 0, 6, 8, 7, 1, 3, 5, 9},
	{1, 7, 5, 0, 9, 8, 3, 4, 2, 6},
	{6, 1, 2, 3, 0, 4, 5, 9, 7, 8},
	{3, 6, 7, 4, 2, 0, 9, 5, 8, 1},
	{5, 8, 6, 9, 7, 2, 0, 1, 3, 4},
	{8, 9, 4, 5, 3, 6, 2, 0, 1, 7},
	{9, 4, 3, 8, 6, 1, 7, 2, 0, 5},
	{2, 5, 8, 1, 4, 3, 6, 7, 9, 0},
}

func wantStep(t *testing.T, row, digit, to int, e api.Errno) {
	t.Helper()
	if got, err := damm.Step(row, digit); got != to || err != e {
		t.Errorf("Step(%d, %d): %d %d, and must be %d %d", row, digit, got, err, to, e)
	}
}

// wantRow: digits lead to that row, or are wrong for both calls.
func wantRow(t *testing.T, s string, row int, e api.Errno) {
	t.Helper()
	digit, is := byte(48+row), row == 0
	if e != api.OK {
		digit, is = 0, false
	}
	if got, err := damm.Digit(s); got != digit || err != e {
		t.Errorf("Digit(%q): %d %d, and must be %d %d", s, got, err, digit, e)
	}
	if got, err := damm.Is(s); got != is || err != e {
		t.Errorf("Is(%q): %v %d, and must be %v %d", s, got, err, is, e)
	}
}

func wantIs(t *testing.T, s string, is bool) {
	t.Helper()
	if got, err := damm.Is(s); got != is || err != api.OK {
		t.Errorf("Is(%q): %v %d, and must be %v", s, got, err, is)
	}
}

// rowOf digits, by the table above.
func rowOf(s string) int {
	row := 0
	for _, c := range s {
		row = rows[row][c-48]
	}
	return row
}

func drawn(r *rand.Rand, many int) string {
	b := make([]byte, many)
	for i := range b {
		b[i] = byte(48 + r.Intn(10))
	}
	return string(b)
}

// whole: digits, and the one that stands behind them.
func whole(t *testing.T, s string) string {
	t.Helper()
	digit, err := damm.Digit(s)
	if err != api.OK {
		t.Fatalf("Digit(%q): %d", s, err)
	}
	return s + string([]byte{digit})
}

func TestH1Table(t *testing.T) {
	for row := range 10 {
		for digit := range 10 {
			wantStep(t, row, digit, rows[row][digit], api.OK)
		}
	}
}

func TestH1Wrong(t *testing.T) {
	wrong := []int{-1, 10, 11, 48, 57, 100, math.MinInt, math.MinInt + 1, math.MinInt32, -1 << 40, 1 << 40, math.MaxInt32, math.MaxInt - 1, math.MaxInt}
	for _, x := range wrong {
		for n := range 10 {
			wantStep(t, x, n, 0, api.ErrRange)
			wantStep(t, n, x, 0, api.ErrRange)
		}
		for _, y := range wrong {
			wantStep(t, x, y, 0, api.ErrRange)
		}
	}
}

func TestH2Digits(t *testing.T) {
	wantRow(t, "", 0, api.OK)
	wantRow(t, "0", 0, api.OK)
	wantRow(t, "0000", 0, api.OK)
	wantRow(t, "572", 4, api.OK)
	wantRow(t, "5724", 0, api.OK)
	wantRow(t, "0005724", 0, api.OK)
	wantRow(t, "5274", 8, api.OK)
	wantRow(t, "123456789", 4, api.OK)
	wantRow(t, "1234567894", 0, api.OK)
}

// TestH2EveryNumber: of up to four digits, and drawn ones of every length.
func TestH2EveryNumber(t *testing.T) {
	for n := range 10000 {
		for width := 1; width <= 4; width++ {
			if s := fmt.Sprintf("%0*d", width, n); len(s) == width {
				wantRow(t, s, rowOf(s), api.OK)
			}
		}
	}
	r := rand.New(rand.NewSource(1))
	for many := range api.MaxDigits + 1 {
		for range 200 {
			s := drawn(r, many)
			wantRow(t, s, rowOf(s), api.OK)
		}
	}
}

// TestH2Steps: the row is where one comes by Step, digit by digit.
func TestH2Steps(t *testing.T) {
	r := rand.New(rand.NewSource(2))
	for range 1000 {
		s, row := drawn(r, r.Intn(api.MaxDigits+1)), 0
		for _, c := range s {
			row, _ = damm.Step(row, int(c-48))
		}
		wantRow(t, s, row, api.OK)
	}
}

// TestH2OtherBytes: each byte that is no digit tells, wherever it stands.
func TestH2OtherBytes(t *testing.T) {
	for c := range 256 {
		if c >= 48 && c <= 57 {
			continue
		}
		other := string([]byte{byte(c)})
		wantRow(t, other, 0, api.ErrForm)
		for _, many := range []int{1, 5, api.MaxDigits - 1, api.MaxDigits, 100} {
			digits := strings.Repeat("7", many)
			wantRow(t, other+digits, 0, api.ErrForm)
			wantRow(t, digits[:many/2]+other+digits[many/2:], 0, api.ErrForm)
			wantRow(t, digits+other, 0, api.ErrForm)
		}
	}
	for _, s := range []string{"57 2", " 572", "572\n", "-572", "+572", "5.72", "\u0665\u0667\u0662", "\uff15\uff17\uff12", "\xff\xfe", "\x00"} {
		wantRow(t, s, 0, api.ErrForm)
	}
}

// TestH2Many: too many digits tell, but another byte among them tells first.
func TestH2Many(t *testing.T) {
	for _, digit := range []string{"0", "7"} {
		most := strings.Repeat(digit, api.MaxDigits)
		wantRow(t, most, rowOf(most), api.OK)
		for _, many := range []int{1, 2, 1000, 1 << 20} {
			longer := most + strings.Repeat(digit, many)
			wantRow(t, longer, 0, api.ErrMany)
			wantRow(t, longer+"x", 0, api.ErrForm)
			wantRow(t, "x"+longer, 0, api.ErrForm)
		}
	}
}

// TestH3OneBehind: of the ten digits that may stand behind others, just one is right.
func TestH3OneBehind(t *testing.T) {
	r := rand.New(rand.NewSource(3))
	for many := range api.MaxDigits {
		for range 50 {
			s := drawn(r, many)
			right := whole(t, s)
			for digit := range 10 {
				other := s + string([]byte{byte(48 + digit)})
				wantIs(t, other, other == right)
			}
		}
	}
}

// wantSeen: no digit of a right number misread, and no two neighbours changed about, are taken for right.
func wantSeen(t *testing.T, right string) {
	t.Helper()
	wantIs(t, right, true)
	for i := range len(right) {
		b := []byte(right)
		for digit := range 10 {
			b[i] = byte(48 + digit)
			wantIs(t, string(b), b[i] == right[i])
		}
		b[i] = right[i]
		if i > 0 && b[i] != b[i-1] {
			b[i], b[i-1] = b[i-1], b[i]
			wantIs(t, string(b), false)
		}
	}
}

func TestH3Seen(t *testing.T) {
	for n := range 1000 {
		wantSeen(t, whole(t, fmt.Sprintf("%03d", n)))
	}
	r := rand.New(rand.NewSource(4))
	for many := range api.MaxDigits {
		for range 50 {
			wantSeen(t, whole(t, drawn(r, many)))
		}
	}
}

// told: all answers of a text.
func told(s string) string {
	row, e1 := damm.Step(len(s)%11, len(s)/2%11)
	digit, e2 := damm.Digit(s)
	is, e3 := damm.Is(s)
	return fmt.Sprint(row, e1, digit, e2, is, e3)
}

// TestP3NothingIsKept: asked backward and by many at once, the answers are the same.
func TestP3NothingIsKept(t *testing.T) {
	r := rand.New(rand.NewSource(5))
	texts, first := make([]string, 300), make([]string, 300)
	for i := range texts {
		texts[i] = drawn(r, r.Intn(api.MaxDigits+3))
		if r.Intn(5) == 0 {
			texts[i] += "x"
		}
		first[i] = told(texts[i])
	}
	var all sync.WaitGroup
	for range 4 {
		all.Go(func() {
			for i := len(texts) - 1; i >= 0; i-- {
				if again := told(texts[i]); again != first[i] {
					t.Errorf("%s, and it was %s", again, first[i])
				}
			}
		})
	}
	all.Wait()
}
