package num

import "octavo/api"

const mostWhole = api.MaxNum / api.Scale // the greatest whole number

// Gcd: the greatest int that divides both; 0 of ints that are beyond MaxNum, and of two zeros.
func Gcd(a, b int) int {
	if !good(a, b) {
		return 0
	}
	for b != 0 {
		a, b = b, a%b
	}
	return size(a)
}

// Fact: the product of the whole numbers from 1 to k.
func Fact(k int) (int, bool) {
	if k < 0 {
		return 0, false
	}
	n := 1
	// Factorials rise: one that is too great is the last that is looked at.
	for i := 2; i <= k && n <= mostWhole; i++ {
		n *= i
	}
	return answer(n * api.Scale)
}

// Comb: in how many ways k things are chosen of n.
func Comb(n, k int) (int, bool) {
	if n < 0 || k < 0 {
		return 0, false
	}
	if k > n {
		return 0, true
	}
	k = min(k, n-k)
	if k == 0 {
		return api.Scale, true
	}
	// There are at least n ways: a greater n has no answer, and no product wraps below.
	if n > mostWhole {
		return 0, false
	}
	ways := 1
	for i := 1; i <= k && ways <= mostWhole; i++ {
		ways = ways * (n - k + i) / i
	}
	return answer(ways * api.Scale)
}
