package work

import (
	"slices"

	"swinggate/api"
	"swinggate/date"
	"swinggate/easter"
)

// almanac of a calendar that was checked. It keeps the holidays of the years that were asked for, so that a search of
// many days reckons each year once.
type almanac struct {
	api.Calendar
	years map[int][]int
}

func open(c api.Calendar) almanac {
	return almanac{Calendar: c, years: map[int][]int{}}
}

// search from a day on, for the first one of which found, told whether it is one of work, says so.
func (a almanac) search(n int, found func(isWork bool) bool) (int, api.Errno) {
	for {
		isWork, err := a.is(n)
		if err != api.OK {
			return 0, err
		}
		if found(isWork) {
			return n, api.OK
		}
		n++
	}
}

func (a almanac) count(from, to int) (int, api.Errno) {
	many := 0
	for n := from; n < to; n++ {
		isWork, err := a.is(n)
		if err != api.OK {
			return 0, err
		}
		if isWork {
			many++
		}
	}
	return many, api.OK
}

func (a almanac) is(n int) (bool, api.Errno) {
	if !isDay(n) {
		return false, api.ErrRange
	}
	d, err := date.Of(n)
	if err != api.OK {
		return false, err
	}
	// A Fixed holiday at a year's end may have been put off into the next year.
	isFree := a.isRest(n) || slices.Contains(a.kept(d.Y), n) || slices.Contains(a.kept(d.Y-1), n)
	return !isFree, api.OK
}

// isRest: day 1 is a Monday, with which Rest begins.
func (a almanac) isRest(n int) bool { return a.Rest[(n-1)%weekDays] }

// kept holidays of a year.
func (a almanac) kept(y int) []int {
	days, isKept := a.years[y]
	if !isKept {
		days = a.holidays(y)
		a.years[y] = days
	}
	return days
}

func (a almanac) holidays(y int) []int {
	var days []int
	for _, r := range a.Rules {
		if n, err := a.holiday(r, y); err == api.OK {
			days = append(days, n)
		}
	}
	slices.Sort(days)
	return slices.Compact(days)
}

// holiday of a rule that was checked: an error, if there is none, ahead of the first year, or a Moving one ahead of the
// first Easter that there is.
func (a almanac) holiday(r api.Rule, y int) (int, api.Errno) {
	switch r.Kind {
	case api.Fixed:
		return a.fixed(r, y)
	case api.Nth:
		return nth(r, y)
	}
	return easter.Feast(y, r.D)
}

func (a almanac) fixed(r api.Rule, y int) (int, api.Errno) {
	n, err := date.Day(api.Date{Y: y, M: r.M, D: r.D})
	if err != api.OK {
		return 0, err
	}
	// This ends: a calendar with nothing but days of rest does not come here.
	for a.isRest(n) {
		n++
	}
	return n, api.OK
}

func nth(r api.Rule, y int) (int, api.Errno) {
	first, err := date.Day(api.Date{Y: y, M: r.M, D: 1})
	if err != api.OK {
		return 0, err
	}
	ahead := (r.W - first%weekDays + weekDays) % weekDays
	n := first + ahead + (r.D-1)*weekDays
	// Only a fifth one may lie behind its month: then the fourth is the last.
	if d, _ := date.Of(n); d.M != r.M {
		n -= weekDays
	}
	return n, api.OK
}
