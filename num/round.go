package num

import "octavo/api"

const (
	fewest   = -8     // places to round to: hundred millions
	most     = behind // and all that a number has
	rootBits = 25     // bits that the root of the greatest number has
)

// The ways to round.
const (
	toNearest = iota
	awayFromZero
	towardsZero
	upwards
	downwards
)

// Round: n with d places.
func Round(n, d, how int) (int, bool) {
	if !Good(n) || d < fewest || d > most {
		return 0, false
	}
	step := tens(most - d)
	rest := n % step
	away := rest != 0
	switch how {
	case toNearest:
		away = size(rest)*2 >= step
	case awayFromZero:
	case towardsZero:
		away = false
	case upwards:
		away = away && n > 0
	case downwards:
		away = away && n < 0
	default:
		return 0, false
	}
	if away {
		return answer(n - rest + signed(step, n < 0))
	}
	return n - rest, true
}

// Sqrt: the greatest number whose square is at most n. A root in ten-thousandths has a square in hundred-millionths, so n is taken Scale times.
func Sqrt(n int) (int, bool) {
	if !Good(n) || n < 0 {
		return 0, false
	}
	root := 0
	for i := rootBits - 1; i >= 0; i-- {
		if more := root + 1<<i; more*more <= n*api.Scale {
			root = more
		}
	}
	return root, true
}
