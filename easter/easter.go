// Package easter: Easter: see doc/02-easter.md.
package easter

import (
	"swinggate/api"
	"swinggate/date"
)

// Sunday is the day of Easter of a year.
func Sunday(y int) (int, api.Errno) {
	if y < api.FirstEaster || y > api.MaxYear {
		return 0, api.ErrRange
	}
	n := place(y)
	return date.Day(api.Date{Y: y, M: n / 31, D: n%31 + 1})
}

// Feast is the day so many days behind Easter.
func Feast(y, off int) (int, api.Errno) {
	n, err := Sunday(y)
	if err != api.OK {
		return 0, err
	}
	if off < -api.MaxOff || off > api.MaxOff {
		return 0, api.ErrRange
	}
	return n + off, api.OK
}

// place of Easter in its year, in months of 31 days; the letters are those of promise B1, to be held against it. Nothing
// that is divided is below 0 for a year that has an Easter, so Go's division goes downward, as the promise asks.
func place(y int) int {
	a := y % 19
	b, c := y/100, y%100
	d, e := b/4, b%4
	f := (b + 8) / 25
	g := (b - f + 1) / 3
	h := (19*a + b - d - g + 15) % 30
	i, k := c/4, c%4
	l := (32 + 2*e + 2*i - h - k) % 7
	m := (a + 11*h + 22*l) / 451
	return h + l - 7*m + 114
}
