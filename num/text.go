package num

import (
	"strconv"
	"strings"

	"octavo/api"
)

const (
	ahead  = 12 // digits ahead of a text's point, at most
	behind = 4  // digits behind it: as many as Scale has zeros
)

// Parse: the number of a text.
func Parse(s string) (int, bool) {
	s, below := strings.CutPrefix(s, "-")
	first, last, point := strings.Cut(s, ".")
	whole, ok := count(first, ahead)
	if !ok {
		return 0, false
	}
	rest := 0
	if point {
		if rest, ok = count(last, behind); !ok {
			return 0, false
		}
		rest *= tens(behind - len(last))
	}
	return answer(signed(whole*api.Scale+rest, below))
}

// count: the number that 1 to most digits write, and nothing but digits. The length is looked at first, so that no sum wraps.
func count(digits string, most int) (int, bool) {
	if len(digits) < 1 || len(digits) > most {
		return 0, false
	}
	n := 0
	for _, c := range digits {
		if c < '0' || c > '9' {
			return 0, false
		}
		n = n*10 + int(c-'0')
	}
	return n, true
}

// tens: the product of k tens.
func tens(k int) int {
	n := 1
	for range k {
		n *= 10
	}
	return n
}

// Print: the shortest text of n. The sign is taken off of the two parts, since the least int has none without it.
func Print(n int) string {
	text := strconv.Itoa(size(n / api.Scale))
	if n < 0 {
		text = "-" + text
	}
	if rest := size(n % api.Scale); rest > 0 {
		// The Scale ahead of the rest keeps the zeros that it begins with.
		text += "." + strings.TrimRight(strconv.Itoa(api.Scale + rest)[1:], "0")
	}
	return text
}
