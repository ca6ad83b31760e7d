package date_test

import (
	"math"
	"testing"

	"octavo/api"
	"octavo/date"
)

// P7.2

func TestParts(t *testing.T) {
	for _, r := range []struct{ day, y, m, d int }{
		{1, 1900, 1, 1}, {2, 1900, 1, 2}, {31, 1900, 1, 31}, {32, 1900, 2, 1}, {59, 1900, 2, 28}, {60, 1900, 3, 1}, {365, 1900, 12, 31}, {366, 1901, 1, 1}, {367, 1901, 1, 2}, {1460, 1903, 12, 31}, {1461, 1904, 1, 1}, {1520, 1904, 2, 29}, {1521, 1904, 3, 1}, {1826, 1904, 12, 31}, {1827, 1905, 1, 1}, {25568, 1970, 1, 1},
		{36524, 1999, 12, 31}, {36525, 2000, 1, 1}, {36584, 2000, 2, 29}, {36585, 2000, 3, 1}, {36890, 2000, 12, 31}, {36891, 2001, 1, 1}, {45350, 2024, 2, 29}, {73108, 2100, 2, 28}, {73109, 2100, 3, 1},
		{api.MaxDay - 364, 9999, 1, 1}, {api.MaxDay - 365, 9998, 12, 31}, {api.MaxDay - 1, 9999, 12, 30}, {api.MaxDay, 9999, 12, 31},
	} {
		same(t, cut(r.day), parts{r.y, r.m, r.d, true}, "Parts", r.day)
	}
}

func TestBadDaysHaveNothing(t *testing.T) {
	for _, day := range badDays() {
		same(t, cut(day), parts{}, "Parts", day)
		same(t, date.Weekday(day), 0, "Weekday", day)
		same(t, date.Week(day), 0, "Week", day)
		same(t, date.Print(day), "", "Print", day)
		for _, k := range ends() {
			same(t, asked(date.Months(day, k, false)), none, "Months", day, k, false)
			same(t, asked(date.Months(day, k, true)), none, "Months", day, k, true)
		}
	}
}

func TestWeekday(t *testing.T) {
	for _, r := range []struct{ day, want int }{
		{1, 2}, {2, 3}, {3, 4}, {4, 5}, {5, 6}, {6, 7}, {7, 1}, {8, 2}, {at(1970, 1, 1), 5}, {at(2000, 1, 1), 7}, {at(2000, 2, 29), 3}, {at(2021, 1, 3), 1}, {at(2024, 2, 29), 5}, {at(2026, 11, 17), 3}, {api.MaxDay - 1, 5}, {api.MaxDay, 6},
	} {
		same(t, date.Weekday(r.day), r.want, "Weekday", r.day)
	}
}

func TestWeek(t *testing.T) {
	for _, r := range []struct{ y, m, d, want int }{
		{1900, 1, 1, 1}, {1900, 1, 7, 1}, {1900, 1, 8, 2}, {1900, 12, 30, 52}, {1900, 12, 31, 1}, {1901, 1, 1, 1}, {1901, 1, 6, 1}, {1901, 1, 7, 2},
		// A year that begins on a Friday, with week 53 of the year ahead, which is a long one.
		{2020, 12, 27, 52}, {2020, 12, 28, 53}, {2020, 12, 31, 53}, {2021, 1, 1, 53}, {2021, 1, 3, 53}, {2021, 1, 4, 1}, {2021, 1, 10, 1}, {2021, 1, 11, 2},
		// One that begins on a Saturday, behind a year of 52 weeks, and one of 53.
		{2021, 12, 31, 52}, {2022, 1, 1, 52}, {2022, 1, 2, 52}, {2022, 1, 3, 1}, {2004, 12, 31, 53}, {2005, 1, 1, 53}, {2005, 1, 2, 53}, {2005, 1, 3, 1},
		// One that begins on a Sunday.
		{2022, 12, 31, 52}, {2023, 1, 1, 52}, {2023, 1, 2, 1}, {2023, 12, 31, 52},
		// Those that begin on Monday to Thursday begin with week 1.
		{2024, 1, 1, 1}, {2024, 1, 7, 1}, {2024, 1, 8, 2}, {2019, 1, 1, 1}, {2019, 1, 6, 1}, {2019, 1, 7, 2}, {2020, 1, 1, 1}, {2020, 1, 5, 1}, {2020, 1, 6, 2}, {2015, 1, 1, 1}, {2015, 1, 4, 1}, {2015, 1, 5, 2}, {2015, 12, 31, 53}, {2016, 1, 1, 53}, {2016, 1, 3, 53}, {2016, 1, 4, 1},
		// Years that end with week 1, from their last Monday, Tuesday or Wednesday on.
		{2018, 12, 30, 52}, {2018, 12, 31, 1}, {2019, 12, 29, 52}, {2019, 12, 30, 1}, {2019, 12, 31, 1}, {2024, 12, 29, 52}, {2024, 12, 30, 1}, {2024, 12, 31, 1}, {2025, 1, 1, 1}, {2025, 12, 28, 52}, {2025, 12, 29, 1}, {2025, 12, 31, 1}, {2026, 1, 4, 1}, {2026, 1, 5, 2}, {2026, 11, 17, 47},
		{9999, 12, 26, 51}, {9999, 12, 27, 52}, {9999, 12, 31, 52}, {9998, 12, 31, 53}, {9999, 1, 1, 53}, {9999, 1, 3, 53}, {9999, 1, 4, 1},
	} {
		same(t, date.Week(at(r.y, r.m, r.d)), r.want, "Week", r.y, r.m, r.d)
	}
}

// TestAllDays holds every good day against the library's calendar.
func TestAllDays(t *testing.T) {
	c := calendar(1)
	for day := 1; day <= api.MaxDay; day++ {
		same(t, cut(day), parts{c.Year(), int(c.Month()), c.Day(), true}, "Parts", day)
		same(t, date.Weekday(day), int(c.Weekday())+1, "Weekday", day)
		_, week := c.ISOWeek()
		same(t, date.Week(day), week, "Week", day)
		c = c.AddDate(0, 0, 1)
	}
}

func TestMonths(t *testing.T) {
	for _, r := range []struct {
		y, m, d, k int
		end        bool
		ty, tm, td int
	}{
		{2024, 1, 31, 0, false, 2024, 1, 31}, {2024, 1, 15, 0, false, 2024, 1, 15}, {2024, 1, 15, 0, true, 2024, 1, 31}, {2024, 2, 1, 0, true, 2024, 2, 29}, {2023, 2, 28, 0, true, 2023, 2, 28}, {2024, 2, 28, 0, false, 2024, 2, 28},
		{2024, 1, 28, 1, false, 2024, 2, 28}, {2024, 1, 29, 1, false, 2024, 2, 29}, {2024, 1, 30, 1, false, 2024, 2, 29}, {2024, 1, 31, 1, false, 2024, 2, 29}, {2023, 1, 28, 1, false, 2023, 2, 28}, {2023, 1, 29, 1, false, 2023, 2, 28}, {2023, 1, 30, 1, false, 2023, 2, 28}, {2023, 1, 31, 1, false, 2023, 2, 28},
		{2024, 3, 31, 1, false, 2024, 4, 30}, {2024, 3, 30, 1, false, 2024, 4, 30}, {2024, 3, 29, 1, false, 2024, 4, 29}, {2024, 4, 30, 1, false, 2024, 5, 30}, {2024, 4, 30, 1, true, 2024, 5, 31}, {2024, 2, 29, 1, false, 2024, 3, 29}, {2024, 2, 29, 1, true, 2024, 3, 31}, {2024, 2, 29, 12, false, 2025, 2, 28}, {2024, 2, 29, 48, false, 2028, 2, 29}, {2024, 2, 29, -1, false, 2024, 1, 29}, {2024, 2, 29, -12, false, 2023, 2, 28},
		{2024, 12, 31, 1, false, 2025, 1, 31}, {2024, 12, 1, 1, true, 2025, 1, 31}, {2024, 12, 31, 2, false, 2025, 2, 28}, {2024, 1, 31, -1, false, 2023, 12, 31}, {2024, 1, 1, -1, true, 2023, 12, 31}, {2024, 1, 31, -2, false, 2023, 11, 30}, {2024, 3, 31, -1, false, 2024, 2, 29}, {2024, 1, 15, -13, false, 2022, 12, 15}, {2024, 1, 15, -12, false, 2023, 1, 15}, {2024, 11, 30, 3, false, 2025, 2, 28}, {2024, 5, 31, -3, true, 2024, 2, 29}, {2000, 2, 29, 1200, false, 2100, 2, 28},
		{1900, 1, 1, 8100*12 - 1, false, 9999, 12, 1}, {1900, 1, 1, 8100*12 - 1, true, 9999, 12, 31}, {9999, 12, 31, 1 - 8100*12, false, 1900, 1, 31}, {9999, 12, 31, 1 - 8100*12, true, 1900, 1, 31}, {1900, 2, 1, -1, false, 1900, 1, 1}, {1900, 2, 28, -1, true, 1900, 1, 31}, {9999, 11, 30, 1, false, 9999, 12, 30}, {9999, 11, 30, 1, true, 9999, 12, 31}, {9999, 12, 1, 0, true, 9999, 12, 31},
	} {
		tells(t, asked(date.Months(at(r.y, r.m, r.d), r.k, r.end)), r.ty, r.tm, r.td, "Months", r)
	}
}

func TestMonthsToNoDay(t *testing.T) {
	for _, r := range []struct{ y, m, d, k int }{
		{1900, 1, 1, -1}, {1900, 1, 31, -1}, {1900, 12, 31, -12}, {1900, 2, 28, -2}, {1950, 1, 1, -601}, {2024, 1, 1, -far}, {9999, 12, 31, -8100 * 12}, {9999, 12, 31, -far}, {9999, 12, 31, -far - 1},
		{9999, 12, 1, 1}, {9999, 12, 31, 1}, {9999, 1, 1, 12}, {9999, 11, 30, 2}, {9950, 1, 1, 600}, {2024, 1, 1, far}, {1900, 1, 1, 8100 * 12}, {1900, 1, 1, far}, {1900, 1, 1, far + 1},
		{2024, 1, 1, far + 1}, {2024, 1, 1, -far - 1}, {2024, 1, 1, math.MaxInt}, {2024, 1, 1, math.MinInt}, {2024, 12, 31, math.MaxInt}, {2024, 12, 31, math.MinInt}, {9999, 12, 31, math.MaxInt - 12}, {1900, 1, 1, math.MinInt + 1},
	} {
		for _, end := range []bool{false, true} {
			same(t, asked(date.Months(at(r.y, r.m, r.d), r.k, end)), none, "Months", r, end)
		}
	}
}

func TestMonthsOfManyDays(t *testing.T) {
	l := []int{math.MinInt, -far - 1, -far, -97201, -97200, -97199, -1201, -48, -25, -24, -14, -13, -12, -11, -3, -2, -1, 0, 1, 2, 3, 11, 12, 13, 14, 24, 25, 48, 1199, 1200, 50000, 97198, 97199, 97200, 97201, far, far + 1, math.MaxInt}
	for _, day := range someDays() {
		for _, k := range l {
			for _, end := range []bool{false, true} {
				same(t, asked(date.Months(day, k, end)), monthsWords(day, k, end), "Months", day, k, end)
			}
		}
	}
}
