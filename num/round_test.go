package num_test

import (
	"math"
	"math/big"
	"testing"

	"octavo/api"
	"octavo/num"
)

// P5.3

func TestRound(t *testing.T) {
	for _, r := range []struct{ n, d, how, want int }{
		{25000, 0, 0, 30000}, {-25000, 0, 0, -30000}, {24999, 0, 0, 20000}, {-24999, 0, 0, -20000}, {25001, 0, 0, 30000}, {5000, 0, 0, 10000}, {-5000, 0, 0, -10000}, {4999, 0, 0, 0}, {-4999, 0, 0, 0}, {15000, 0, 0, 20000}, {35000, 0, 0, 40000}, {20000, 0, 0, 20000}, {0, 0, 0, 0},
		{20001, 0, 1, 30000}, {-20001, 0, 1, -30000}, {29999, 0, 1, 30000}, {20000, 0, 1, 20000}, {-20000, 0, 1, -20000}, {1, 0, 1, 10000}, {-1, 0, 1, -10000}, {0, 0, 1, 0},
		{29999, 0, 2, 20000}, {-29999, 0, 2, -20000}, {20001, 0, 2, 20000}, {20000, 0, 2, 20000}, {9999, 0, 2, 0}, {-9999, 0, 2, 0}, {0, 0, 2, 0},
		{20001, 0, 3, 30000}, {-20001, 0, 3, -20000}, {-29999, 0, 3, -20000}, {20000, 0, 3, 20000}, {-20000, 0, 3, -20000}, {1, 0, 3, 10000}, {-1, 0, 3, 0}, {0, 0, 3, 0},
		{29999, 0, 4, 20000}, {-29999, 0, 4, -30000}, {-20001, 0, 4, -30000}, {20000, 0, 4, 20000}, {-20000, 0, 4, -20000}, {1, 0, 4, 0}, {-1, 0, 4, -10000}, {0, 0, 4, 0},
		{12345, 4, 0, 12345}, {12345, 3, 0, 12350}, {12345, 2, 0, 12300}, {12345, 1, 0, 12000}, {-12345, 3, 0, -12350}, {12344, 3, 0, 12340}, {12345, 4, 1, 12345}, {-12345, 4, 4, -12345}, {12341, 3, 1, 12350}, {12349, 3, 2, 12340},
		{150000, -1, 0, 200000}, {149999, -1, 0, 100000}, {-150000, -1, 0, -200000}, {123450000, -2, 0, 123000000}, {50000000000, -7, 0, most}, {-50000000000, -7, 0, -most}, {49999999999, -7, 0, 0}, {1, -7, 1, most}, {-1, -7, 1, -most}, {1, -7, 3, most}, {-1, -7, 4, -most}, {most, -7, 1, most}, {-most, -7, 4, -most},
		{most, -8, 0, 0}, {-most, -8, 0, 0}, {most, -8, 2, 0}, {-most, -8, 3, 0}, {most, -8, 4, 0}, {0, -8, 1, 0}, {most, 4, 0, most}, {-most, 4, 1, -most}, {most - 1, 0, 0, most}, {most - 1, 3, 3, most}, {1 - most, 3, 4, -most}, {most - 1, 4, 1, most - 1},
	} {
		n, ok := num.Round(r.n, r.d, r.how)
		tells(t, n, ok, r.want, "Round", r.n, r.d, r.how)
	}
	for _, r := range [][3]int{
		{1, -8, 1}, {-1, -8, 1}, {most, -8, 1}, {-most, -8, 1}, {1, -8, 3}, {-1, -8, 4}, {most, -8, 3}, {-most, -8, 4},
		{0, -9, 0}, {0, 5, 0}, {10000, -9, 2}, {10000, 5, 2}, {0, math.MinInt, 0}, {0, math.MaxInt, 0}, {0, math.MinInt + 4, 0}, {10000, 64, 0}, {10000, -64, 0},
		{0, 0, -1}, {0, 0, 5}, {10000, 4, -1}, {10000, 4, 5}, {0, 0, math.MinInt}, {0, 0, math.MaxInt}, {10000, -8, 6},
	} {
		n, ok := num.Round(r[0], r[1], r[2])
		refuses(t, n, ok, "Round", r[0], r[1], r[2])
	}
}

// rounded: n with d places, by fractions that are exact.
func rounded(n, d, how int) (int, bool) {
	if !within(n) || d < -8 || d > 4 || how < 0 || how > 4 {
		return 0, false
	}
	step := new(big.Int).Exp(big.NewInt(10), big.NewInt(int64(4-d)), nil)
	x := new(big.Rat).SetFrac(big.NewInt(int64(n)), step)
	low := floor(x)
	high := floor(new(big.Rat).Neg(x))
	high.Neg(high)
	steps := half(x)
	switch {
	case how == 3, how == 1 && n > 0, how == 2 && n < 0:
		steps = high
	case how != 0:
		steps = low
	}
	return small(steps.Mul(steps, step))
}

func TestRoundOfAny(t *testing.T) {
	l := append(append(edges(), bad()...), some(1500, 6)...)
	// The halves of each step, and what is one beside them.
	for step := 10; step < 10*most; step *= 10 {
		for _, k := range []int{1, 3, 9} {
			if n := step / 2 * k; n < most {
				l = append(l, n-1, n, n+1, 1-n, -n, -n-1)
			}
		}
	}
	for _, n := range l {
		for d := -10; d <= 6; d++ {
			for how := -1; how <= 5; how++ {
				got, ok := num.Round(n, d, how)
				want, fine := rounded(n, d, how)
				answers(t, got, ok, want, fine, "Round", n, d, how)
			}
		}
	}
}

func TestRoundRefusesWhatIsNotGood(t *testing.T) {
	for _, n := range bad() {
		for d := -8; d <= 4; d++ {
			for how := range 5 {
				got, ok := num.Round(n, d, how)
				refuses(t, got, ok, "Round", n, d, how)
			}
		}
	}
}

func TestSqrt(t *testing.T) {
	for n, want := range map[int]int{0: 0, 1: 100, 2: 141, 3: 173, 4: 200, 9: 300, 100: 1000, 2500: 5000, 9999: 9999, 10000: 10000, 10001: 10000, 20000: 14142, 30000: 17320, 40000: 20000, 39999: 19999, 40001: 20000, 90000: 30000, 89999: 29999, 90001: 30000, 22500: 15000, 22499: 14999, 1000000: 100000, most: 31622776, most - 1: 31622776, 99999960000 / 10000 * 10000: 31622770} {
		n0, ok := num.Sqrt(n)
		tells(t, n0, ok, want, "Sqrt", n)
	}
	for _, n := range append(bad(), -1, -2, -9999, -10000, -40000, 1-most, -most) {
		n0, ok := num.Sqrt(n)
		refuses(t, n0, ok, "Sqrt", n)
	}
}

// Of squares, and of what is one below and one above; and of any: the root's square is at most n, the next one's is more.
func TestSqrtOfAny(t *testing.T) {
	l := append(edges(), some(20000, 7)...)
	for k := range 3200 {
		n := k * k * api.Scale
		l = append(l, n-1, n, n+1)
	}
	for k := range 316000 {
		if k%97 == 0 { // squares of two places
			l = append(l, k*k-1, k*k, k*k+1)
		}
	}
	for _, n := range l {
		got, ok := num.Sqrt(n)
		if n < 0 || n > most {
			refuses(t, got, ok, "Sqrt", n)
			continue
		}
		want := new(big.Int).Sqrt(new(big.Int).Mul(big.NewInt(int64(n)), big.NewInt(api.Scale)))
		tells(t, got, ok, int(want.Int64()), "Sqrt", n)
	}
}

func TestWhole(t *testing.T) {
	for n, want := range map[int]int{0: 0, 10000: 1, -10000: -1, 20000: 2, 640000: 64, -640000: -64, most: 10000000, -most: -10000000, most - 10000: 9999999} {
		got, ok := num.Whole(n)
		tells(t, got, ok, want, "Whole", n)
	}
	for _, n := range append(bad(), 1, -1, 5000, -5000, 9999, 10001, -9999, -10001, 15000, most-1, 1-most, most-5000) {
		got, ok := num.Whole(n)
		refuses(t, got, ok, "Whole", n)
	}
	for _, n := range some(5000, 8) {
		got, ok := num.Whole(n)
		if fraction(n).IsInt() {
			tells(t, got, ok, n/api.Scale, "Whole", n)
		} else {
			refuses(t, got, ok, "Whole", n)
		}
	}
}
