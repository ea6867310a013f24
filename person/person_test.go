package person_test

import (
	"fmt"
	"math"
	"math/rand"
	"slices"
	"sync"
	"testing"
	"time"

	"swinggate/api"
	"swinggate/person"
)

var (
	extremes = []int{math.MinInt, math.MinInt + 1, math.MinInt32, -1 << 40, 1 << 40, math.MaxInt32, math.MaxInt - 1, math.MaxInt}
	noDays   = append([]int{0, -1, api.LastDay + 1}, extremes...)
	noAges   = append([]int{-1, api.MaxAge + 1}, extremes...)
)

// number and moment of a day go by the library's calendar, so that they lean on no package of the project.
func number(y, m, d int) int {
	at := time.Date(y, time.Month(m), d, 0, 0, 0, 0, time.UTC)
	return int((at.Unix()-moment(1).Unix())/86400) + 1
}

func moment(n int) time.Time { return time.Date(1, 1, n, 0, 0, 0, 0, time.UTC) }

// turn of an age by the library's calendar, however late it is: who was born on a day that the year does not have
// turns on the last one of the month.
func turn(born, age int) int {
	at := moment(born)
	return min(number(at.Year()+age, int(at.Month()), at.Day()), number(at.Year()+age, int(at.Month())+1, 0))
}

func class(from, to, percent int) api.Class {
	return api.Class{From: from, To: to, Percent: percent}
}

// three classes: children, the young, the old; whoever is 16 or 17 is of two.
func three() []api.Class {
	return []api.Class{class(0, 17, 50), class(16, 25, 34), class(60, 149, 100)}
}

// wrongClasses, whoever was born whenever.
func wrongClasses() []api.Class {
	out := []api.Class{
		class(5, 4, 1), class(-1, 1, 1), class(-2, -1, 1), class(0, api.MaxAge, 1), class(api.MaxAge, api.MaxAge, 1),
		class(0, 1, -1), class(0, 1, 101), class(1, 0, 0), class(-1, -1, 0), class(api.MaxAge, api.MaxAge-1, 0),
	}
	for _, n := range extremes {
		out = append(out, class(n, n, 1), class(0, n, 1), class(n, 17, 1), class(0, 17, n))
	}
	return out
}

// drawn day of birth: the 29th of February, the first days and the last ones are frequent.
func drawn(r *rand.Rand) int {
	switch r.Intn(4) {
	case 0:
		return number(4*(1+r.Intn(2499)), 2, 29)
	case 1:
		return 1 + r.Intn(1000)
	case 2:
		return api.LastDay - r.Intn(60000)
	}
	return 1 + r.Intn(api.LastDay)
}

func drawnClass(r *rand.Rand) api.Class {
	to := r.Intn(api.MaxAge)
	return class(r.Intn(to+1), to, r.Intn(101))
}

func wantTurns(t *testing.T, born, age, want int, e api.Errno) {
	t.Helper()
	if got, err := person.Turns(born, age); got != want || err != e {
		t.Errorf("Turns(%d, %d): %d %d, and must be %d %d", born, age, got, err, want, e)
	}
}

func wantAge(t *testing.T, born, n, want int, e api.Errno) {
	t.Helper()
	if got, err := person.Age(born, n); got != want || err != e {
		t.Errorf("Age(%d, %d): %d %d, and must be %d %d", born, n, got, err, want, e)
	}
}

func wantWindow(t *testing.T, born int, c api.Class, want api.Span, e api.Errno) {
	t.Helper()
	if got, err := person.Window(born, c); got != want || err != e {
		t.Errorf("Window(%d, %v): %v %d, and must be %v %d", born, c, got, err, want, e)
	}
}

func wantPercent(t *testing.T, born int, l []api.Class, n, want int, e api.Errno) {
	t.Helper()
	if got, err := person.Percent(born, l, n); got != want || err != e {
		t.Errorf("Percent(%d, %v, %d): %d %d, and must be %d %d", born, l, n, got, err, want, e)
	}
}

func TestO1Turns(t *testing.T) {
	wantTurns(t, number(2000, 12, 31), 18, number(2018, 12, 31), api.OK)
	wantTurns(t, number(2000, 12, 31), 0, number(2000, 12, 31), api.OK)
	wantTurns(t, number(2003, 3, 1), 1, number(2004, 3, 1), api.OK)
	wantTurns(t, 1, api.MaxAge, number(151, 1, 1), api.OK)
	leap := number(2004, 2, 29)
	for age, d := range []int{29, 28, 28, 28, 29, 28, 28, 28, 29} {
		wantTurns(t, leap, age, number(2004+age, 2, d), api.OK)
	}
	// 2100 is no leap year, and 2000 is one.
	wantTurns(t, leap, 96, number(2100, 2, 28), api.OK)
	wantTurns(t, leap, 100, number(2104, 2, 29), api.OK)
	wantTurns(t, number(1904, 2, 29), 96, number(2000, 2, 29), api.OK)
	r := rand.New(rand.NewSource(1))
	for range 50000 {
		born, age := drawn(r), r.Intn(api.MaxAge+1)
		if n := turn(born, age); n <= api.LastDay {
			wantTurns(t, born, age, n, api.OK)
		} else {
			wantTurns(t, born, age, 0, api.ErrOver)
		}
	}
}

func TestO1TurnsOver(t *testing.T) {
	wantTurns(t, api.LastDay, 0, api.LastDay, api.OK)
	wantTurns(t, api.LastDay, 1, 0, api.ErrOver)
	wantTurns(t, number(9998, 12, 31), 1, api.LastDay, api.OK)
	wantTurns(t, number(9999, 1, 1), 1, 0, api.ErrOver)
	wantTurns(t, number(9849, 12, 31), api.MaxAge, api.LastDay, api.OK)
	wantTurns(t, number(9850, 1, 1), api.MaxAge-1, number(9999, 1, 1), api.OK)
	wantTurns(t, number(9850, 1, 1), api.MaxAge, 0, api.ErrOver)
}

// TestO1TurnsWrong: a day or an age that is none tells ahead of what would run over.
func TestO1TurnsWrong(t *testing.T) {
	for _, n := range noDays {
		for _, age := range append([]int{0, 1, api.MaxAge}, noAges...) {
			wantTurns(t, n, age, 0, api.ErrRange)
		}
	}
	for _, age := range noAges {
		for _, born := range []int{1, number(2004, 2, 29), api.LastDay} {
			wantTurns(t, born, age, 0, api.ErrRange)
		}
	}
}

func TestO1Age(t *testing.T) {
	born := number(2000, 12, 31)
	wantAge(t, born, born, 0, api.OK)
	wantAge(t, born, number(2001, 12, 30), 0, api.OK)
	wantAge(t, born, number(2001, 12, 31), 1, api.OK)
	wantAge(t, born, number(2018, 12, 30), 17, api.OK)
	wantAge(t, born, number(2018, 12, 31), 18, api.OK)
	leap := number(2004, 2, 29)
	wantAge(t, leap, number(2005, 2, 27), 0, api.OK)
	wantAge(t, leap, number(2005, 2, 28), 1, api.OK)
	wantAge(t, leap, number(2008, 2, 28), 3, api.OK)
	wantAge(t, leap, number(2008, 2, 29), 4, api.OK)
	wantAge(t, leap, number(2100, 2, 28), 96, api.OK)
	// The next age is not turned any more.
	wantAge(t, api.LastDay, api.LastDay, 0, api.OK)
	wantAge(t, number(9999, 1, 1), api.LastDay, 0, api.OK)
	wantAge(t, number(9998, 12, 31), api.LastDay, 1, api.OK)
	wantAge(t, number(9998, 12, 31), api.LastDay-1, 0, api.OK)
	wantAge(t, number(9900, 6, 1), api.LastDay, 99, api.OK)
}

// TestO1AgeMany: somebody is of the last age for a year, and none is told behind it.
func TestO1AgeMany(t *testing.T) {
	for _, born := range []int{1, number(2004, 2, 29), number(1904, 2, 29), number(9848, 12, 31)} {
		wantAge(t, born, turn(born, api.MaxAge)-1, api.MaxAge-1, api.OK)
		wantAge(t, born, turn(born, api.MaxAge), api.MaxAge, api.OK)
		wantAge(t, born, turn(born, api.MaxAge+1)-1, api.MaxAge, api.OK)
		wantAge(t, born, turn(born, api.MaxAge+1), 0, api.ErrMany)
		wantAge(t, born, api.LastDay, 0, api.ErrMany)
	}
	wantAge(t, number(9849, 1, 1), api.LastDay, api.MaxAge, api.OK)
	wantAge(t, number(9849, 12, 31), api.LastDay, api.MaxAge, api.OK)
	wantAge(t, number(9850, 1, 1), api.LastDay, api.MaxAge-1, api.OK)
}

func TestO1AgeWrong(t *testing.T) {
	for _, n := range noDays {
		for _, other := range append([]int{1, 700000, api.LastDay}, noDays...) {
			wantAge(t, n, other, 0, api.ErrRange)
			wantAge(t, other, n, 0, api.ErrRange)
		}
	}
	wantAge(t, 700000, 699999, 0, api.ErrState)
	wantAge(t, 700000, 1, 0, api.ErrState)
	wantAge(t, 2, 1, 0, api.ErrState)
	wantAge(t, api.LastDay, api.LastDay-1, 0, api.ErrState)
	wantAge(t, api.LastDay, 1, 0, api.ErrState)
}

// TestO1AnyAge: as it is counted, year by year.
func TestO1AnyAge(t *testing.T) {
	r := rand.New(rand.NewSource(2))
	for range 3000 {
		born := drawn(r)
		n := min(api.LastDay, born+r.Intn(56000))
		age := 0
		for turn(born, age+1) <= n {
			age++
		}
		if age <= api.MaxAge {
			wantAge(t, born, n, age, api.OK)
		} else {
			wantAge(t, born, n, 0, api.ErrMany)
		}
	}
}

func TestO2Window(t *testing.T) {
	born := number(2000, 12, 31)
	wantWindow(t, born, class(0, 17, 50), api.Span{From: born, To: number(2018, 12, 31)}, api.OK)
	wantWindow(t, born, class(16, 25, 34), api.Span{From: number(2016, 12, 31), To: number(2026, 12, 31)}, api.OK)
	wantWindow(t, born, class(18, 18, 0), api.Span{From: number(2018, 12, 31), To: number(2019, 12, 31)}, api.OK)
	wantWindow(t, born, class(0, api.MaxAge-1, 100), api.Span{From: born, To: number(2150, 12, 31)}, api.OK)
	wantWindow(t, born, class(api.MaxAge-1, api.MaxAge-1, 1), api.Span{From: number(2149, 12, 31), To: number(2150, 12, 31)}, api.OK)
	leap := number(2004, 2, 29)
	wantWindow(t, leap, class(3, 3, 1), api.Span{From: number(2007, 2, 28), To: number(2008, 2, 29)}, api.OK)
	wantWindow(t, leap, class(4, 4, 1), api.Span{From: number(2008, 2, 29), To: number(2009, 2, 28)}, api.OK)
	r := rand.New(rand.NewSource(3))
	for range 20000 {
		born, c := drawn(r), drawnClass(r)
		want := api.Span{From: turn(born, c.From), To: turn(born, c.To+1)}
		if want.To <= api.LastDay {
			wantWindow(t, born, c, want, api.OK)
		} else {
			wantWindow(t, born, c, api.Span{}, api.ErrOver)
		}
	}
}

func TestO2WindowOver(t *testing.T) {
	// The end alone, the end on the last day, and both.
	wantWindow(t, api.LastDay, class(0, 0, 1), api.Span{}, api.ErrOver)
	wantWindow(t, number(9998, 12, 31), class(0, 0, 1), api.Span{From: number(9998, 12, 31), To: api.LastDay}, api.OK)
	wantWindow(t, number(9998, 12, 31), class(0, 1, 1), api.Span{}, api.ErrOver)
	wantWindow(t, number(9998, 12, 31), class(1, 1, 1), api.Span{}, api.ErrOver)
	wantWindow(t, number(9998, 12, 31), class(2, 2, 1), api.Span{}, api.ErrOver)
	wantWindow(t, number(9849, 12, 31), class(api.MaxAge-1, api.MaxAge-1, 1), api.Span{From: number(9998, 12, 31), To: api.LastDay}, api.OK)
}

// TestO2WindowWrong: what may not stand there tells ahead of what would run over.
func TestO2WindowWrong(t *testing.T) {
	for _, n := range noDays {
		for _, c := range append(wrongClasses(), three()...) {
			wantWindow(t, n, c, api.Span{}, api.ErrRange)
		}
	}
	for _, born := range []int{1, number(2004, 2, 29), number(9990, 1, 1), api.LastDay} {
		for _, c := range wrongClasses() {
			wantWindow(t, born, c, api.Span{}, api.ErrRange)
		}
	}
}

func TestO2Percent(t *testing.T) {
	born := number(2000, 12, 31)
	for n, want := range map[int]int{
		born: 50, number(2016, 12, 30): 50, number(2016, 12, 31): 50, number(2018, 12, 30): 50,
		number(2018, 12, 31): 34, number(2026, 12, 30): 34, number(2026, 12, 31): 0,
		number(2060, 12, 30): 0, number(2060, 12, 31): 100, number(2150, 12, 30): 100, number(2150, 12, 31): 0,
		// Who is not yet born is of no class, and who is older than any age of none any more.
		born - 1: 0, 1: 0, number(2151, 12, 31): 0, api.LastDay: 0,
	} {
		wantPercent(t, born, three(), n, want, api.OK)
		wantPercent(t, born, nil, n, 0, api.OK)
		wantPercent(t, born, []api.Class{}, n, 0, api.OK)
	}
	// The greatest one, wherever it stands, the same class twice, and as many as there may be.
	wantPercent(t, born, []api.Class{class(0, 30, 10), class(0, 30, 30), class(0, 30, 20)}, born, 30, api.OK)
	wantPercent(t, born, []api.Class{class(0, 30, 30), class(0, 30, 20), class(0, 30, 30)}, born, 30, api.OK)
	wantPercent(t, born, append(slices.Repeat([]api.Class{class(0, 30, 0)}, api.MaxClasses-1), class(0, 0, 100)), born, 100, api.OK)
	wantPercent(t, born, make([]api.Class, api.MaxClasses), born, 0, api.OK)
}

// TestO2PercentWrong: how many classes there are tells first, then the classes, then the day.
func TestO2PercentWrong(t *testing.T) {
	born := number(2000, 12, 31)
	for _, l := range [][]api.Class{make([]api.Class, api.MaxClasses+1), slices.Repeat(three(), 3), slices.Repeat(wrongClasses()[:1], 9)} {
		for _, n := range append([]int{born}, noDays...) {
			wantPercent(t, born, l, n, 0, api.ErrMany)
			wantPercent(t, n, l, born, 0, api.ErrMany)
		}
	}
	for _, n := range noDays {
		wantPercent(t, born, nil, n, 0, api.ErrRange)
		wantPercent(t, born, three(), n, 0, api.ErrRange)
		wantPercent(t, n, three(), born, 0, api.ErrRange)
		wantPercent(t, n, three(), n, 0, api.ErrRange)
		// The day tells behind the classes.
		wantPercent(t, api.LastDay, three(), n, 0, api.ErrOver)
	}
	for _, c := range wrongClasses() {
		wantPercent(t, born, []api.Class{c}, born, 0, api.ErrRange)
		wantPercent(t, born, append(three(), c), born, 0, api.ErrRange)
		// The first class of which something is wrong tells.
		wantPercent(t, api.LastDay, append(three(), c), api.LastDay, 0, api.ErrOver)
		wantPercent(t, api.LastDay, append([]api.Class{c}, three()...), api.LastDay, 0, api.ErrRange)
	}
	// A class that is never on that day tells too.
	wantPercent(t, number(9990, 1, 1), three(), number(9990, 1, 1), 0, api.ErrOver)
	wantPercent(t, number(9990, 1, 1), []api.Class{class(0, 8, 5)}, number(9990, 1, 1), 5, api.OK)
}

// TestO2WithoutClasses: nothing is asked of the day of birth, as no class is gone through.
func TestO2WithoutClasses(t *testing.T) {
	for _, n := range noDays {
		wantPercent(t, n, nil, 700000, 0, api.OK)
		wantPercent(t, n, nil, n, 0, api.ErrRange)
	}
}

// percentOf classes, by the age that is counted year by year.
func percentOf(born int, l []api.Class, n int) int {
	age, most := -1, 0
	for turn(born, age+1) <= n {
		age++
	}
	for _, c := range l {
		if c.From <= age && age <= c.To {
			most = max(most, c.Percent)
		}
	}
	return most
}

func TestO2PercentOfDrawnClasses(t *testing.T) {
	r := rand.New(rand.NewSource(4))
	for range 3000 {
		born := 1 + r.Intn(number(9849, 12, 31))
		l := make([]api.Class, r.Intn(api.MaxClasses+1))
		for i := range l {
			l[i] = drawnClass(r)
		}
		n := max(1, born-400+r.Intn(56000))
		wantPercent(t, born, l, min(n, api.LastDay), percentOf(born, l, min(n, api.LastDay)), api.OK)
	}
}

// TestO3OneYearOlder: on each day that Turns tells, and on no other one; and a class has just its ages.
func TestO3OneYearOlder(t *testing.T) {
	for _, born := range []int{1, number(2004, 2, 29), number(1896, 2, 29), number(2000, 12, 31)} {
		age := 0
		next, _ := person.Turns(born, 1)
		days, _ := person.Window(born, class(13, 19, 1))
		for n := born; age < api.MaxAge; n++ {
			if n == next {
				age++
				next, _ = person.Turns(born, age+1)
			}
			wantAge(t, born, n, age, api.OK)
			if has := days.From <= n && n < days.To; has != (13 <= age && age <= 19) {
				t.Fatalf("the days %v have day %d of age %d: %v", days, n, age, has)
			}
		}
	}
}

// told: all answers of a day of birth, classes and a day.
func told(born int, l []api.Class, n int) string {
	day, e1 := person.Turns(born, n%152)
	age, e2 := person.Age(born, n)
	percent, e3 := person.Percent(born, l, n)
	out := fmt.Sprint(day, e1, age, e2, percent, e3)
	for _, c := range l {
		days, err := person.Window(born, c)
		out += fmt.Sprint(days, err)
	}
	return out
}

// TestP1AnyNumbers: no call panics, whatever it is handed, and with an error there is nothing else.
func TestP1AnyNumbers(t *testing.T) {
	r := rand.New(rand.NewSource(5))
	about := func(most int) int {
		if r.Intn(40) == 0 {
			return int(r.Uint64())
		}
		return r.Intn(most+4) - 2
	}
	for range 30000 {
		l := make([]api.Class, r.Intn(11))
		for i := range l {
			l[i] = class(about(20), about(api.MaxAge), about(100))
		}
		born, n, age := about(api.LastDay), about(api.LastDay), about(api.MaxAge)
		if day, err := person.Turns(born, age); day != 0 && err != api.OK {
			t.Errorf("Turns(%d, %d): %d %d", born, age, day, err)
		}
		if age, err := person.Age(born, n); age != 0 && err != api.OK {
			t.Errorf("Age(%d, %d): %d %d", born, n, age, err)
		}
		if percent, err := person.Percent(born, l, n); percent != 0 && err != api.OK {
			t.Errorf("Percent(%d, %v, %d): %d %d", born, l, n, percent, err)
		}
		if days, err := person.Window(born, class(age, about(api.MaxAge), 5)); days != (api.Span{}) && err != api.OK {
			t.Errorf("Window of %d: %v %d", born, days, err)
		}
	}
}

// TestP2OnlyRead: classes and the spare room behind them are as they were.
func TestP2OnlyRead(t *testing.T) {
	room := append(slices.Repeat(three(), 3), wrongClasses()[0])
	was := slices.Clone(room)
	for many := range len(room) + 1 {
		for _, n := range []int{0, 1, 700000, 720000, api.LastDay} {
			told(700000, room[:many], n)
			if !slices.Equal(room, was) {
				t.Fatalf("the classes are %v, and were %v", room, was)
			}
		}
	}
}

// TestP3NothingIsKept: asked backward and by many at once, the answers are the same.
func TestP3NothingIsKept(t *testing.T) {
	r := rand.New(rand.NewSource(6))
	const count = 300
	var born, days [count]int
	var classes [count][]api.Class
	var first [count]string
	ask := func(i int) string { return told(born[i], classes[i], days[i]) }
	for i := range count {
		born[i] = drawn(r)
		days[i] = min(api.LastDay, born[i]+r.Intn(40000))
		classes[i] = append(three(), drawnClass(r))
		first[i] = ask(i)
	}
	var all sync.WaitGroup
	for range 4 {
		all.Go(func() {
			for i := count - 1; i >= 0; i-- {
				if again := ask(i); again != first[i] {
					t.Errorf("%s, and it was %s", again, first[i])
				}
			}
		})
	}
	all.Wait()
}
