package text

import (
	"strconv"

	"shelf/api"
)

const (
	daySeconds = 86400
	firstYear  = 1970
	// The calendar comes round in 400 years, of which 97 are leap years.
	roundYears = 400
	roundDays  = roundYears*365 + 97
)

var months = [12]string{"Jan", "Feb", "Mar", "Apr", "May", "Jun", "Jul", "Aug", "Sep", "Oct", "Nov", "Dec"}

// monthDays are those of a year that is no leap year.
var monthDays = [12]int{31, 28, 31, 30, 31, 30, 31, 31, 30, 31, 30, 31}

func isDate(sec int) bool { return sec >= 0 && sec <= api.MaxDate }

func isLeap(year int) bool {
	return year%4 == 0 && (year%100 != 0 || year%400 == 0)
}

func daysOfYear(year int) int {
	if isLeap(year) {
		return 366
	}
	return 365
}

// daysOfMonth counts the days of a month 1 to 12.
func daysOfMonth(year, month int) int {
	if month == 2 && isLeap(year) {
		return 29
	}
	return monthDays[month-1]
}

// yearOfDay is the year that holds a day, counted from the first of firstYear on, and the day's place in it from 0 on.
func yearOfDay(day int) (int, int) {
	year := firstYear + day/roundDays*roundYears
	day %= roundDays
	for day >= daysOfYear(year) {
		day -= daysOfYear(year)
		year++
	}
	return year, day
}

// monthOfDay is the month and the day of the month, both from 1 on, of a day's place in its year.
func monthOfDay(year, day int) (int, int) {
	month := 1
	for day >= daysOfMonth(year, month) {
		day -= daysOfMonth(year, month)
		month++
	}
	return month, day + 1
}

func decimal(n int) string { return strconv.Itoa(n) }

func twoDigits(n int) string { return decimal(n/10) + decimal(n%10) }
