package maths

import (
	"strconv"

	"octavo/api"
	"octavo/value"
)

const (
	pi         = 31416 // ten-thousandths
	leastBase  = 2
	mostBase   = 36 // ten digits and 26 letters
	mostDigits = 10 // of a text that is a number to a base
)

// ofBases: the functions of numbers to other bases, and the number that is of none.
func ofBases(name string) function {
	switch name {
	case "PI":
		return taking()(func(...int) api.Value { return value.Of(pi, true) })
	case "BASE":
		return taking(whole, whole)(written)
	case "DECIMAL":
		return decimal
	}
	return nil
}

// base: are there numbers to that base?
func base(b int) bool {
	return b >= leastBase && b <= mostBase
}

// written: the first number's digits to the base that is the second one.
func written(l ...int) api.Value {
	if l[0] < 0 || !base(l[1]) {
		return value.Bad(api.BadNum)
	}
	return value.Str(value.Upper(strconv.FormatInt(int64(l[0]), l[1])))
}

// decimal: the number of a text to a base. The text is looked at as one when the base, too, is known to be a whole number.
func decimal(args []api.Area) api.Value {
	if len(args) != 2 {
		return value.Bad(api.BadVal)
	}
	s, bad := value.ToText(One(args[0]))
	if bad != 0 {
		return value.Bad(bad)
	}
	return taking(whole)(func(l ...int) api.Value { return read(s, l[0]) })(args[1:])
}

// read: the number of digits to base b.
func read(digits string, b int) api.Value {
	if !base(b) || len(digits) < 1 || len(digits) > mostDigits {
		return value.Bad(api.BadNum)
	}
	n := 0
	for _, c := range value.Upper(digits) {
		k, ok := digit(c)
		if !ok || k >= b {
			return value.Bad(api.BadNum)
		}
		n = n*b + k
	}
	return ofWhole(n)
}

// digit: what a digit or a capital letter counts.
func digit(c rune) (int, bool) {
	switch {
	case c >= '0' && c <= '9':
		return int(c - '0'), true
	case c >= 'A' && c <= 'Z':
		return int(c-'A') + 10, true
	}
	return 0, false
}
