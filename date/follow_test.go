package date_test

import (
	"testing"

	"octavo/api"
	"octavo/date"
)

// P7.3

// TestDaysFollowEachOther goes through all dates by Last, and counts.
func TestDaysFollowEachOther(t *testing.T) {
	day := 0
	for y := 1900; y <= 9999; y++ {
		for m := 1; m <= 12; m++ {
			for d := 1; d <= date.Last(y, m); d++ {
				day++
				same(t, asked(date.Day(y, m, d)), maybe{day, true}, "Day", y, m, d)
				same(t, cut(day), parts{y, m, d, true}, "Parts", day)
			}
		}
	}
	same(t, day, api.MaxDay, "the last day")
}

func TestParseOfPrintIsTheDay(t *testing.T) {
	was := ""
	for day := 1; day <= api.MaxDay; day++ {
		s := date.Print(day)
		same(t, asked(date.Parse(s)), maybe{day, true}, "Parse", s)
		if s <= was {
			t.Fatalf("%s stands behind %s", s, was)
		}
		was = s
	}
}

func TestWeekdaysFollowEachOther(t *testing.T) {
	for day := 2; day <= api.MaxDay; day++ {
		same(t, date.Weekday(day), date.Weekday(day-1)%7+1, "Weekday", day)
		was, is := date.Week(day-1), date.Week(day)
		if date.Weekday(day) != 2 {
			same(t, is, was, "Week", day)
		} else if is != was+1 && (is != 1 || was < 52) || is > 53 {
			t.Fatalf("Week %d: %d, behind %d", day, is, was)
		}
	}
}

// Of a date that there is, Of and Day tell the same; and months there and back are the same day, where no month is too short.
func TestOfAndMonthsOfDates(t *testing.T) {
	for _, day := range someDays() {
		p := cut(day)
		same(t, asked(date.Of(p.y, p.m, p.d)), maybe{day, true}, "Of", p)
		same(t, asked(date.Months(day, 0, false)), maybe{day, true}, "Months", day, 0)
		same(t, asked(date.Months(day, 0, true)), asked(date.Day(p.y, p.m, date.Last(p.y, p.m))), "Months", day, 0)
		for _, k := range []int{1, 2, 11, 12, 13, 600} {
			there, ok := date.Months(day, k, false)
			if ok && p.d <= 28 {
				same(t, asked(date.Months(there, -k, false)), maybe{day, true}, "Months", there, -k)
			}
		}
	}
}
