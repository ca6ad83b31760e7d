package num

import "octavo/api"

const farthest = 64 // the greatest power, either way

// good: are both numbers?
func good(a, b int) bool {
	return Good(a) && Good(b)
}

// Add: a sum.
func Add(a, b int) (int, bool) {
	if !good(a, b) {
		return 0, false
	}
	return answer(a + b)
}

// Sub: a difference.
func Sub(a, b int) (int, bool) {
	if !good(a, b) {
		return 0, false
	}
	return answer(a - b)
}

// Mul: a product, rounded to the nearest ten-thousandth. The whole part of a goes with b exactly; only its rest has to be rounded, and no product is more than an int has room for.
func Mul(a, b int) (int, bool) {
	if !good(a, b) {
		return 0, false
	}
	x, y := size(a), size(b)
	whole := x / api.Scale * y
	rest := nearest(x%api.Scale*y, api.Scale)
	return answer(signed(whole+rest, (a < 0) != (b < 0)))
}

// Div: a quotient, rounded to the nearest ten-thousandth.
func Div(a, b int) (int, bool) {
	if !good(a, b) || b == 0 {
		return 0, false
	}
	return answer(signed(nearest(size(a)*api.Scale, size(b)), (a < 0) != (b < 0)))
}

// nearest: a / b as the nearest whole number, a half upwards; neither is below 0.
func nearest(a, b int) int {
	n := a / b
	if a%b*2 >= b {
		n++
	}
	return n
}

// Pow: a to the b, where b is whole.
func Pow(a, b int) (int, bool) {
	k, ok := Whole(b)
	if !ok || !Good(a) || size(k) > farthest || a == 0 && k == 0 {
		return 0, false
	}
	next := powers(a)
	n := api.Scale
	for range size(k) {
		if n, ok = next(); !ok {
			return 0, false
		}
	}
	if k < 0 {
		return Div(api.Scale, n)
	}
	return n, true
}

// powers: a function that tells a's next power at each call, from the first one on, up to the first that is not good.
func powers(a int) func() (int, bool) {
	n := api.Scale
	return func() (int, bool) {
		var ok bool
		n, ok = Mul(n, a)
		return n, ok
	}
}

// Mod: a less b times the greatest whole number that is at most a / b.
func Mod(a, b int) (int, bool) {
	if !good(a, b) || b == 0 {
		return 0, false
	}
	rest := a % b
	if rest != 0 && (rest < 0) != (b < 0) {
		rest += b
	}
	return rest, true
}

// Quo: a / b without what is behind the point.
func Quo(a, b int) (int, bool) {
	if !good(a, b) || b == 0 {
		return 0, false
	}
	return answer(a / b * api.Scale)
}
