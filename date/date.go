// Package date: days: see doc/01-date.md.
package date

import "swinggate/api"

// Days of four hundred years: the pattern of leap years begins anew behind them.
const (
	cycleYears = 400
	cycleDays  = 146097
)

const (
	weekDays   = 7
	thursday   = 4
	february   = 2
	mostWeeks  = 53
	commonYear = 365
)

// lengths of the months of a year that is no leap year.
var lengths = [12]int{31, 28, 31, 30, 31, 30, 31, 31, 30, 31, 30, 31}

// Leap tells whether February of a year has a 29th; years below 1 are asked by the same rule.
func Leap(y int) bool { return y%4 == 0 && y%100 != 0 || y%400 == 0 }

// Day is the number of a date.
func Day(d api.Date) (int, api.Errno) {
	if !isDate(d) {
		return 0, api.ErrRange
	}
	n := daysAhead(d.Y) + d.D
	for i := range d.M - 1 {
		n += monthLength(d.Y, i+1)
	}
	return n, api.OK
}

// Of is the date of a number.
func Of(n int) (api.Date, api.Errno) {
	if !isDay(n) {
		return api.Date{}, api.ErrRange
	}
	y := yearOf(n)
	left := n - daysAhead(y)
	for i := range len(lengths) {
		length := monthLength(y, i+1)
		if left <= length {
			return api.Date{Y: y, M: i + 1, D: left}, api.OK
		}
		left -= length
	}
	return api.Date{}, api.ErrRange
}

// Week is a day by its week.
func Week(n int) (api.Week, api.Errno) {
	if !isDay(n) {
		return api.Week{}, api.ErrRange
	}
	// Day 1 is a Monday and LastDay a Friday, so the Thursday of every day's week is a day that there is.
	day := weekday(n)
	middle := n - day + thursday
	y := yearOf(middle)
	week := (middle-daysAhead(y)-1)/weekDays + 1
	return api.Week{Year: y, Week: week, Day: day}, api.OK
}

// OfWeek is the day of a week.
func OfWeek(w api.Week) (int, api.Errno) {
	if !isYear(w.Year) || !isWithin(w.Day, 1, weekDays) || !isWithin(w.Week, 1, mostWeeks) {
		return 0, api.ErrRange
	}
	middle := firstThursday(w.Year) + (w.Week-1)*weekDays
	if middle > daysAhead(w.Year+1) {
		return 0, api.ErrRange
	}
	n := middle - thursday + w.Day
	if !isDay(n) {
		return 0, api.ErrRange
	}
	return n, api.OK
}

func isWithin(n, from, to int) bool { return from <= n && n <= to }

func isYear(y int) bool { return isWithin(y, api.MinYear, api.MaxYear) }

func isDay(n int) bool { return isWithin(n, 1, api.LastDay) }

func isDate(d api.Date) bool {
	return isYear(d.Y) && isWithin(d.M, 1, len(lengths)) && isWithin(d.D, 1, monthLength(d.Y, d.M))
}

func monthLength(y, m int) int {
	if m == february && Leap(y) {
		return lengths[m-1] + 1
	}
	return lengths[m-1]
}

// daysAhead of the first of January of a year, from day 1 on.
func daysAhead(y int) int {
	before := y - 1
	return before*commonYear + before/4 - before/100 + before/400
}

// yearOf a day. The mean year's guess is never too late, and at most one year too early, since leap years stray from
// their mean by less than one day upward and by less than two downward.
func yearOf(n int) int {
	y := (n-1)*cycleYears/cycleDays + 1
	if n > daysAhead(y+1) {
		return y + 1
	}
	return y
}

// weekday of a day, from 1, a Monday, to 7.
func weekday(n int) int { return (n-1)%weekDays + 1 }

// firstThursday of a year: the fourth of January lies in the first week, whatever weekday it is.
func firstThursday(y int) int {
	fourth := daysAhead(y) + 4
	return fourth - weekday(fourth) + thursday
}
