package date_test

import (
	"math"
	"math/rand"
	"testing"
	"time"

	"octavo/api"
	"octavo/date"
)

// P7.1

func TestLeap(t *testing.T) {
	for _, y := range []int{4, 8, 96, 104, 400, 800, 1600, 1896, 1904, 1996, 2000, 2004, 2024, 2400, 9996, 10000, far, 0, -4, -8, -96, -104, -400, -2000, -far, math.MinInt, math.MaxInt - 3} {
		same(t, date.Leap(y), true, "Leap", y)
	}
	for _, y := range []int{1, 2, 3, 5, 50, 99, 100, 200, 300, 500, 1700, 1800, 1899, 1900, 1901, 1902, 1903, 2001, 2023, 2100, 2200, 2300, 9998, 9999, -1, -2, -3, -5, -50, -100, -200, -300, -1900, math.MinInt + 1, math.MaxInt, math.MaxInt - 1} {
		same(t, date.Leap(y), false, "Leap", y)
	}
}

func TestLeapOfManyYears(t *testing.T) {
	for y := -12000; y <= 12000; y++ {
		same(t, date.Leap(y), time.Date(y, 12, 31, 0, 0, 0, 0, time.UTC).YearDay() == 366, "Leap", y)
	}
}

func TestLast(t *testing.T) {
	for m, n := range []int{0, 31, 28, 31, 30, 31, 30, 31, 31, 30, 31, 30, 31, 0} {
		for _, y := range []int{1900, 2023, 2100, 9999, 1, 100, -1, -100, math.MaxInt, math.MinInt + 1} {
			same(t, date.Last(y, m), n, "Last", y, m)
		}
		if m == 2 {
			n = 29
		}
		for _, y := range []int{0, 4, 400, 1904, 2000, 2024, 9996, -4, -400, math.MinInt} {
			same(t, date.Last(y, m), n, "Last", y, m)
		}
	}
	for _, m := range []int{0, -1, -2, -11, -12, 13, 14, 24, 26, far, -far, math.MaxInt, math.MaxInt - 1, math.MinInt, math.MinInt + 1} {
		for _, y := range []int{1900, 2000, 2024, 0, -4, math.MinInt, math.MaxInt} {
			same(t, date.Last(y, m), 0, "Last", y, m)
		}
	}
}

func TestDay(t *testing.T) {
	for _, r := range []struct{ y, m, d, want int }{
		{1900, 1, 1, 1}, {1900, 1, 2, 2}, {1900, 1, 31, 31}, {1900, 2, 1, 32}, {1900, 2, 28, 59}, {1900, 3, 1, 60}, {1900, 12, 31, 365},
		{1901, 1, 1, 366}, {1904, 2, 28, 1519}, {1904, 2, 29, 1520}, {1904, 3, 1, 1521}, {1970, 1, 1, 25568}, {2000, 1, 1, 36525}, {2000, 2, 29, 36584}, {2000, 3, 1, 36585}, {2024, 2, 29, 45350}, {2024, 12, 31, 45656}, {2100, 2, 28, 73108}, {2100, 3, 1, 73109},
		{9999, 1, 1, api.MaxDay - 364}, {9999, 12, 1, api.MaxDay - 30}, {9999, 12, 30, api.MaxDay - 1}, {9999, 12, 31, api.MaxDay},
	} {
		same(t, asked(date.Day(r.y, r.m, r.d)), maybe{r.want, true}, "Day", r.y, r.m, r.d)
	}
}

func TestDayOfNoDate(t *testing.T) {
	for _, r := range [][3]int{
		{1899, 12, 31}, {1899, 1, 1}, {1896, 2, 29}, {10000, 1, 1}, {10000, 12, 31}, {0, 1, 1}, {-1, 1, 1}, {-2000, 1, 1}, {20, 1, 1}, {99, 12, 31},
		{1900, 2, 29}, {1900, 2, 30}, {2023, 2, 29}, {2024, 2, 30}, {2024, 2, 31}, {2000, 2, 30}, {2100, 2, 29}, {2024, 4, 31}, {2024, 6, 31}, {2024, 9, 31}, {2024, 11, 31}, {2024, 1, 32}, {9999, 12, 32}, {2024, 12, 32},
		{2024, 1, 0}, {2024, 1, -1}, {1900, 1, 0}, {2024, 3, 0}, {2024, 0, 1}, {2024, 0, 0}, {2024, -1, 1}, {2024, 13, 1}, {2024, 13, 0}, {2024, 14, 0}, {9999, 13, 1}, {1901, 0, 1},
		{math.MaxInt, 1, 1}, {math.MinInt, 1, 1}, {2024, math.MaxInt, 1}, {2024, math.MinInt, 1}, {2024, 1, math.MaxInt}, {2024, 1, math.MinInt}, {math.MaxInt, math.MaxInt, math.MaxInt}, {math.MinInt, math.MinInt, math.MinInt},
	} {
		same(t, asked(date.Day(r[0], r[1], r[2])), none, "Day", r)
	}
}

func TestDayOfManyDates(t *testing.T) {
	for _, y := range []int{1898, 1899, 1900, 1901, 1903, 1904, 1999, 2000, 2001, 2024, 2100, 2400, 5000, 9996, 9998, 9999, 10000, 10001} {
		for m := -1; m <= 14; m++ {
			for d := -1; d <= 33; d++ {
				want := none
				c := time.Date(y, time.Month(m), d, 0, 0, 0, 0, time.UTC)
				if inYears(c) && c.Year() == y && int(c.Month()) == m && c.Day() == d {
					want = maybe{counted(c), true}
				}
				same(t, asked(date.Day(y, m, d)), want, "Day", y, m, d)
			}
		}
	}
}

func TestOf(t *testing.T) {
	for _, r := range [][6]int{
		{2024, 14, 0, 2025, 1, 31}, {2024, 2, 30, 2024, 3, 1}, {2023, 2, 29, 2023, 3, 1}, {1900, 1, 1, 1900, 1, 1}, {1900, 2, 29, 1900, 3, 1}, {9999, 12, 31, 9999, 12, 31},
		{2024, 1, 0, 2023, 12, 31}, {2024, 1, -1, 2023, 12, 30}, {2024, 3, 0, 2024, 2, 29}, {2023, 3, 0, 2023, 2, 28}, {2024, 1, 366, 2024, 12, 31}, {2024, 1, 367, 2025, 1, 1}, {2024, 3, -366, 2023, 2, 28},
		{2024, 0, 1, 2023, 12, 1}, {2024, -1, 1, 2023, 11, 1}, {2024, -11, 1, 2023, 1, 1}, {2024, -12, 1, 2022, 12, 1}, {2024, -13, 1, 2022, 11, 1}, {2024, 12, 1, 2024, 12, 1}, {2024, 13, 1, 2025, 1, 1}, {2024, 24, 31, 2025, 12, 31}, {2024, 25, 1, 2026, 1, 1}, {2024, 0, 0, 2023, 11, 30}, {2024, 13, 31, 2025, 1, 31},
		// Years outside of 1900 to 9999, with months that lead there.
		{0, 22801, 1, 1900, 1, 1}, {0, far, 1, 8333, 4, 1}, {-1, 12*1901 + 1, 1, 1900, 1, 1}, {1899, 13, 1, 1900, 1, 1}, {10000, 0, 1, 9999, 12, 1}, {10000, -94799, 1, 2100, 1, 1}, {10333, -far, 31, 1999, 8, 31}, {-6433, far, 1, 1900, 4, 1}, {18332, -far, 31, 9998, 8, 31},
		// Days that are far.
		{1900, 1, far, 2173, 10, 15}, {9999, 12, -far, 9726, 2, 14}, {2173, 10, -far + 16, 1900, 1, 1}, {9726, 2, far, 9999, 11, 16},
		{1900, 2, 0, 1900, 1, 31}, {1900, 2, -30, 1900, 1, 1}, {9999, 11, 61, 9999, 12, 31},
	} {
		tells(t, asked(date.Of(r[0], r[1], r[2])), r[3], r[4], r[5], "Of", r)
	}
}

func TestOfNone(t *testing.T) {
	for _, r := range [][3]int{
		// The first of the month is there, the day is not.
		{1900, 1, 0}, {1900, 1, -1}, {1900, 2, -31}, {1900, 1, -far}, {1950, 1, -far}, {9999, 12, 32}, {9999, 12, far}, {9999, 11, 62}, {9900, 1, far},
		// The day would be there, the first of the month is not.
		{1899, 12, 32}, {1900, 0, 32}, {1899, 12, far}, {1700, 1, far}, {10000, 1, 0}, {9999, 13, 0}, {9999, 13, -1}, {10000, 1, -far}, {10200, 1, -far}, {0, 22800, 32},
		// Neither is.
		{1899, 12, 31}, {1899, 1, 1}, {1900, 0, 31}, {10000, 1, 1}, {9999, 13, 1}, {0, 1, 1}, {-1, 1, 1}, {-far, 1, 1}, {far, 1, 1}, {-far, far, 1}, {far, -far, 1}, {1900, -far, far}, {9999, far, -far},
		// What is beyond -100000 to 100000, though there would be a day.
		{-far - 1, 12 * far, 1}, {far + 1, -12 * far, 1}, {0, far + 1, 1}, {1900, far + 1, 1}, {10333, -far - 1, 1}, {1900, 1, far + 1}, {9999, 12, -far - 1}, {2024, 1, far + 1}, {5000, 1, -far - 1}, {5000, 1, far + 1}, {5000, 1, api.MaxDay / 2},
		{math.MaxInt, 1, 1}, {math.MinInt, 1, 1}, {2024, math.MaxInt, 1}, {2024, math.MinInt, 1}, {2024, 1, math.MaxInt}, {2024, 1, math.MinInt}, {math.MaxInt, math.MaxInt, math.MaxInt}, {math.MinInt, math.MinInt, math.MinInt}, {math.MaxInt, math.MinInt, 1}, {math.MinInt, math.MaxInt, 1},
		// Products and sums that would wrap to what is near.
		{(math.MinInt / 12) + 2024, 1, 1}, {math.MaxInt/6 + 1, 1, 1}, {1 << 62, 22801, 1}, {1 << 61, 22801, 1},
	} {
		same(t, asked(date.Of(r[0], r[1], r[2])), none, "Of", r)
	}
}

func TestOfAtTheEnds(t *testing.T) {
	for _, y := range ends() {
		for _, m := range ends() {
			for _, d := range []int{math.MinInt, -far - 1, -far, -31, -1, 0, 1, 28, 29, 30, 31, 32, 366, far, far + 1, math.MaxInt} {
				same(t, asked(date.Of(y, m, d)), ofWords(y, m, d), "Of", y, m, d)
			}
		}
	}
}

func TestOfManyNumbers(t *testing.T) {
	r := rand.New(rand.NewSource(1))
	told := 0
	for range 200000 {
		m := r.Intn(2*far+3) - far - 1
		y := r.Intn(8400) + 1750 - m/12
		d := (r.Intn(2*far+3) - far - 1) >> r.Intn(18)
		want := ofWords(y, m, d)
		if want.ok {
			told++
		}
		same(t, asked(date.Of(y, m, d)), want, "Of", y, m, d)
	}
	if told < 100000 || told > 199000 {
		t.Fatalf("only %d days, or too many", told)
	}
}
