package date_test

import (
	"math"
	"math/rand"
	"testing"
	"time"

	"octavo/api"
	"octavo/date"
)

const far = 100000

// same: has a call answered as it is to?
func same[T comparable](t *testing.T, got, want T, what string, args ...any) {
	if got != want {
		t.Helper() // here, since millions of days pass
		t.Fatalf("%s%v: %#v, want %#v", what, args, got, want)
	}
}

// maybe: what a call answers that may tell a day.
type maybe struct {
	day int
	ok  bool
}

var none = maybe{}

func asked(day int, ok bool) maybe {
	return maybe{day, ok}
}

// parts: what Parts answers.
type parts struct {
	y, m, d int
	ok      bool
}

func cut(day int) parts {
	y, m, d, ok := date.Parts(day)
	return parts{y, m, d, ok}
}

// at: the day of a date, by the second way.
func at(y, m, d int) int {
	return counted(time.Date(y, time.Month(m), d, 0, 0, 0, 0, time.UTC))
}

// tells: has a call answered the day of a date?
func tells(t *testing.T, got maybe, y, m, d int, what string, args ...any) {
	t.Helper()
	same(t, got, maybe{at(y, m, d), true}, what, args...)
}

// ends: ints at the ends of what there is, beyond them, and small ones.
func ends() []int {
	l := []int{math.MinInt, math.MinInt + 1, math.MinInt32, -far - 1, -far, 1 - far, -9999, -1900, 1899, 1900, 1901, 2000, 9998, 9999, 10000, far - 1, far, far + 1, api.MaxDay - 1, api.MaxDay, api.MaxDay + 1, math.MaxInt32, math.MaxInt - 1, math.MaxInt}
	for n := -13; n <= 33; n++ {
		l = append(l, n)
	}
	return l
}

// badDays: ints that are no good days.
func badDays() []int {
	return []int{0, -1, -2, -7, -365, -api.MaxDay, api.MaxDay + 1, api.MaxDay + 2, api.MaxDay + 7, api.MaxDay + 366, 2 * api.MaxDay, math.MaxInt32, math.MinInt32, math.MaxInt, math.MaxInt - 1, math.MinInt, math.MinInt + 1}
}

// someDays: those around the turns of years and months, the first and the last ones, and others; each time the same.
func someDays() []int {
	var l []int
	for n := 1; n <= 800; n++ {
		l = append(l, n, api.MaxDay+1-n)
	}
	for _, y := range []int{1904, 1999, 2000, 2001, 2004, 2023, 2024, 2100, 2400, 4000, 8000, 9996} {
		for m := 1; m <= 12; m++ {
			for d := -4; d <= 2; d++ {
				l = append(l, at(y, m, d))
			}
		}
	}
	r := rand.New(rand.NewSource(7))
	for range 3000 {
		l = append(l, 1+r.Intn(api.MaxDay))
	}
	return l
}

// The second way: the library's calendar.

// calendar: the date of a day.
func calendar(day int) time.Time {
	return time.Date(1900, 1, day, 0, 0, 0, 0, time.UTC)
}

// counted: the day of a date.
func counted(c time.Time) int {
	return int((c.Unix()-calendar(1).Unix())/86400) + 1
}

// inYears: is it within 1900 to 9999?
func inYears(c time.Time) bool {
	return c.Year() >= 1900 && c.Year() <= 9999
}

// ofWords: what Of is to answer.
func ofWords(y, m, d int) maybe {
	for _, n := range []int{y, m, d} {
		if n < -far || n > far {
			return none
		}
	}
	first := time.Date(y, time.Month(m), 1, 0, 0, 0, 0, time.UTC)
	c := time.Date(y, time.Month(m), d, 0, 0, 0, 0, time.UTC)
	if !inYears(first) || !inYears(c) {
		return none
	}
	return maybe{counted(c), true}
}

// monthsWords: what Months is to answer of a good day.
func monthsWords(day, k int, end bool) maybe {
	if k < -far || k > far {
		return none
	}
	c := calendar(day)
	first := time.Date(c.Year(), c.Month()+time.Month(k), 1, 0, 0, 0, 0, time.UTC)
	if !inYears(first) {
		return none
	}
	last := time.Date(first.Year(), first.Month()+1, 0, 0, 0, 0, 0, time.UTC)
	if end || c.Day() > last.Day() {
		return maybe{counted(last), true}
	}
	return maybe{counted(first) + c.Day() - 1, true}
}
