package date

const (
	longestYear = 366
	weekDays    = 7
)

// Parts: year, month and day of the month.
func Parts(day int) (int, int, int, bool) {
	if !good(day) {
		return 0, 0, 0, false
	}
	y, m, d := split(day)
	return y, m, d, true
}

// split: the parts of a good day.
func split(day int) (int, int, int) {
	// No year is longer than this, so that the day's own is not an earlier one; and there are few to look at.
	y := firstYear + (day-1)/longestYear
	var m, d int
years:
	for ; y <= lastYear; y++ {
		d = day - ahead(y, 1)
		for m = 1; m <= yearMonths; m++ {
			n := Last(y, m)
			if d <= n {
				break years
			}
			d -= n
		}
	}
	return y, m, d
}

// Weekday: 1 Sunday to 7 Saturday.
func Weekday(day int) int {
	if !good(day) {
		return 0
	}
	return day%weekDays + 1 // day 1 is a Monday
}

// Week: the ISO week's number.
func Week(day int) int {
	if !good(day) {
		return 0
	}
	// A week is of the year that its Thursday is of. It is a good day: the first of all is a Monday, the last a Friday.
	thursday := day - (day-1)%weekDays + 3
	y, _, _ := split(thursday)
	return (thursday-ahead(y, 1)-1)/weekDays + 1
}
