package date

import "strconv"

// Print: YYYY-MM-DD.
func Print(day int) string {
	y, m, d, ok := Parts(day)
	if !ok {
		return ""
	}
	return strconv.Itoa(y) + "-" + twoDigits(m) + "-" + twoDigits(d)
}

// twoDigits: of a number from 0 to 99.
func twoDigits(n int) string {
	s := strconv.Itoa(n)
	if n < 10 {
		return "0" + s
	}
	return s
}

// Parse: the day of a text as Print tells it.
func Parse(s string) (int, bool) {
	if len(s) != len("YYYY-MM-DD") || s[4] != '-' || s[7] != '-' {
		return 0, false
	}
	return Day(digits(s[:4]), digits(s[5:7]), digits(s[8:]))
}

// digits: the number of a text of digits alone, and else -1, which is part of no date.
func digits(s string) int {
	n := 0
	for _, c := range []byte(s) {
		if c < '0' || c > '9' {
			return -1
		}
		n = n*10 + int(c-'0')
	}
	return n
}
