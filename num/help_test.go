package num_test

import (
	"math"
	"math/big"
	"math/rand"
	"testing"

	"octavo/api"
)

const most = api.MaxNum

// answers: has a call answered n and ok?
func answers(t *testing.T, n int, ok bool, want int, fine bool, what string, args ...any) {
	t.Helper()
	if n != want || ok != fine {
		t.Fatalf("%s%v: %d %v, want %d %v", what, args, n, ok, want, fine)
	}
}

// tells: has a call answered a number?
func tells(t *testing.T, n int, ok bool, want int, what string, args ...any) {
	t.Helper()
	answers(t, n, ok, want, true, what, args...)
}

// refuses: has a call answered that there is none?
func refuses(t *testing.T, n int, ok bool, what string, args ...any) {
	t.Helper()
	answers(t, n, ok, 0, false, what, args...)
}

// bad: ints that are no numbers.
func bad() []int {
	return []int{most + 1, -most - 1, most + api.Scale, -most - api.Scale, most * api.Scale, -most * api.Scale, math.MaxInt32 * math.MaxInt32, math.MaxInt, math.MaxInt - 1, math.MinInt, math.MinInt + 1}
}

// edges: numbers at the ends, and those at which rounding turns.
func edges() []int {
	l := []int{0}
	for _, n := range []int{1, 2, 3, 4, 5, 7, 9, 10, 49, 50, 51, 99, 100, 101, 3333, 4999, 5000, 5001, 6667, 9999, 10000, 10001, 14142, 15000, 19999, 20000, 25000, 30000, 70000, 99999, 100000, 640000, 650000, 1 << 20, 1e9, 1e9 + 1, 31622776, 31622777, 99999999, 5e10 - 1, 5e10, 5e10 + 1, most / 3, most - api.Scale, most - 1, most} {
		l = append(l, n, -n)
	}
	return l
}

// some: numbers of all lengths, as many as asked for, each time the same.
func some(n int, seed int64) []int {
	r := rand.New(rand.NewSource(seed))
	l := make([]int, n)
	for i := range l {
		l[i] = r.Intn(most>>r.Intn(37) + 1)
		if r.Intn(3) == 0 {
			l[i] = l[i] / api.Scale * api.Scale
		}
		if r.Intn(2) == 0 {
			l[i] = -l[i]
		}
	}
	return l
}

// pairs: each edge and each bad one with each, and some of any length.
func pairs() [][2]int {
	l := [][2]int{}
	ends := append(edges(), bad()...)
	for _, a := range ends {
		for _, b := range ends {
			l = append(l, [2]int{a, b})
		}
	}
	left, right := some(20000, 1), some(20000, 2)
	for i := range left {
		l = append(l, [2]int{left[i], right[i]})
	}
	return l
}

// The second way to reckon: fractions that are exact, of any length.

// fraction: the number that n stands for.
func fraction(n int) *big.Rat {
	return big.NewRat(int64(n), api.Scale)
}

// floor: the greatest whole number that is at most x.
func floor(x *big.Rat) *big.Int {
	return new(big.Int).Div(x.Num(), x.Denom())
}

// half: the whole number nearest to x, a half away from 0.
func half(x *big.Rat) *big.Int {
	if x.Sign() < 0 {
		n := half(new(big.Rat).Neg(x))
		return n.Neg(n)
	}
	return floor(new(big.Rat).Add(x, big.NewRat(1, 2)))
}

// small: n as a call is to answer it.
func small(n *big.Int) (int, bool) {
	if n.CmpAbs(big.NewInt(most)) > 0 {
		return 0, false
	}
	return int(n.Int64()), true
}

// stands: x as a call is to answer it, rounded to ten-thousandths.
func stands(x *big.Rat) (int, bool) {
	return small(half(new(big.Rat).Mul(x, big.NewRat(api.Scale, 1))))
}

// within: is it one of the numbers?
func within(n int) bool {
	return n >= -most && n <= most
}

// of: what a call of two numbers is to answer, where f tells the exact answer, and nil if there is none.
func of(a, b int, f func(x, y *big.Rat) *big.Rat) (int, bool) {
	if !within(a) || !within(b) {
		return 0, false
	}
	x := f(fraction(a), fraction(b))
	if x == nil {
		return 0, false
	}
	return stands(x)
}

func sum(x, y *big.Rat) *big.Rat        { return new(big.Rat).Add(x, y) }
func difference(x, y *big.Rat) *big.Rat { return new(big.Rat).Sub(x, y) }
func product(x, y *big.Rat) *big.Rat    { return new(big.Rat).Mul(x, y) }

func quotient(x, y *big.Rat) *big.Rat {
	if y.Sign() == 0 {
		return nil
	}
	return new(big.Rat).Quo(x, y)
}

// left: x less y times the greatest whole number that is at most x / y.
func left(x, y *big.Rat) *big.Rat {
	q := quotient(x, y)
	if q == nil {
		return nil
	}
	return difference(x, product(y, new(big.Rat).SetInt(floor(q))))
}

// wholeQuotient: x / y without what is behind the point.
func wholeQuotient(x, y *big.Rat) *big.Rat {
	q := quotient(x, y)
	if q == nil {
		return nil
	}
	return new(big.Rat).SetInt(new(big.Int).Quo(q.Num(), q.Denom()))
}

// power: a to the b, a product behind the other.
func power(a, b int) (int, bool) {
	if !within(a) || !within(b) || b%api.Scale != 0 || b > 64*api.Scale || b < -64*api.Scale || a == 0 && b == 0 {
		return 0, false
	}
	n, ok := api.Scale, true
	for k := b; k != 0 && ok; {
		n, ok = of(n, a, product)
		if k > 0 {
			k -= api.Scale
		} else {
			k += api.Scale
		}
	}
	if ok && b < 0 {
		return of(api.Scale, n, quotient)
	}
	return n, ok
}
