package num_test

import (
	"math"
	"math/big"
	"testing"

	"octavo/api"
	"octavo/num"
)

// P5.3

func divides(t *testing.T, a, b, want int) {
	t.Helper()
	if got := num.Gcd(a, b); got != want {
		t.Fatalf("Gcd %d %d: %d, want %d", a, b, got, want)
	}
}

func TestGcd(t *testing.T) {
	for _, r := range []row{
		{0, 0, 0}, {0, 7, 7}, {7, 0, 7}, {0, -7, 7}, {-7, 0, 7}, {1, 1, 1}, {-1, 1, 1}, {12, 18, 6}, {18, 12, 6}, {-12, 18, 6}, {12, -18, 6}, {-12, -18, 6}, {17, 5, 1}, {5, 5, 5}, {-5, -5, 5}, {10, 5, 5}, {5, 10, 5},
		{most, most, most}, {-most, most, most}, {-most, -most, most}, {most, 0, most}, {0, -most, most}, {most, 1, 1}, {most, most - 1, 1}, {most, 64, 64}, {most, 7, 1},
		{most + 1, most + 1, 0}, {most + 1, 0, 0}, {0, most + 1, 0}, {-most - 1, 5, 0}, {5, -most - 1, 0}, {math.MinInt, 0, 0}, {0, math.MinInt, 0}, {math.MinInt, math.MinInt, 0}, {math.MinInt, 2, 0}, {2, math.MinInt, 0}, {math.MinInt, -1, 0}, {-1, math.MinInt, 0}, {math.MaxInt, math.MaxInt, 0}, {math.MaxInt, 7, 0}, {7, math.MaxInt, 0},
	} {
		divides(t, r.a, r.b, r.want)
	}
}

func TestGcdOfAny(t *testing.T) {
	for _, p := range pairs() {
		want := 0
		if within(p[0]) && within(p[1]) {
			want = int(new(big.Int).GCD(nil, nil, new(big.Int).Abs(big.NewInt(int64(p[0]))), new(big.Int).Abs(big.NewInt(int64(p[1])))).Int64())
		}
		divides(t, p[0], p[1], want)
	}
}

func TestFact(t *testing.T) {
	for k, want := range []int{1, 1, 2, 6, 24, 120, 720, 5040, 40320, 362880, 3628800} {
		n, ok := num.Fact(k)
		tells(t, n, ok, want*api.Scale, "Fact", k)
	}
	for _, k := range []int{11, 12, 13, 20, 21, 25, 64, 66, 1000, 1 << 31, most, most + 1, math.MaxInt - 1, math.MaxInt, -1, -2, -10, -most, math.MinInt, math.MinInt + 1} {
		n, ok := num.Fact(k)
		refuses(t, n, ok, "Fact", k)
	}
}

func TestComb(t *testing.T) {
	rows(t, "Comb", num.Comb, []row{
		{0, 0, 10000}, {1, 0, 10000}, {1, 1, 10000}, {5, 0, 10000}, {5, 1, 50000}, {5, 2, 100000}, {5, 3, 100000}, {5, 4, 50000}, {5, 5, 10000}, {10, 3, 1200000}, {25, 12, 52003000000}, {25, 13, 52003000000}, {26, 9, 31245500000},
		// More than there are.
		{5, 6, 0}, {0, 1, 0}, {0, math.MaxInt, 0}, {5, most, 0}, {5, most + 1, 0}, {5, math.MaxInt, 0}, {math.MaxInt - 1, math.MaxInt, 0},
		// Answers at the end, and ints that are great.
		{10000000, 1, most}, {10000000, 9999999, most}, {10000000, 0, 10000}, {10000000, 10000000, 10000}, {9999999, 1, most - 10000}, {4472, 2, 99971560000}, {4472, 4470, 99971560000},
		{10000001, 0, 10000}, {most, 0, 10000}, {most + 1, 0, 10000}, {most + 1, most + 1, 10000}, {math.MaxInt, 0, 10000}, {math.MaxInt, math.MaxInt, 10000},
	})
	none(t, "Comb", num.Comb, [][2]int{
		{-1, 0}, {0, -1}, {-1, -1}, {5, -1}, {-5, 2}, {-5, -7}, {-1, 5}, {-5, -5}, {math.MinInt, 0}, {0, math.MinInt}, {math.MinInt, math.MinInt}, {math.MaxInt, -1}, {math.MinInt, math.MaxInt}, {math.MaxInt, math.MinInt},
		{49, 6}, {49, 43}, {30, 15}, {64, 32}, {66, 33}, {1000, 500}, {4473, 2}, {4473, 4471}, {10000001, 1}, {10000001, 10000000}, {10000000, 2}, {10000000, 5000000}, {10000000, 9999998}, {most, 1}, {most, 2}, {most, most - 1}, {most + 1, 1}, {math.MaxInt, 1}, {math.MaxInt, 2}, {math.MaxInt, math.MaxInt / 2}, {math.MaxInt, math.MaxInt - 1}, {math.MaxInt, math.MaxInt - 2}, {1 << 62, 1 << 61},
	})
}

func TestCombOfAny(t *testing.T) {
	for n := range 300 {
		for k := range n + 3 {
			want := 0
			fine := true
			if k <= n {
				ways := new(big.Int).Binomial(int64(n), int64(k))
				want, fine = small(ways.Mul(ways, big.NewInt(api.Scale)))
			}
			got, ok := num.Comb(n, k)
			answers(t, got, ok, want, fine, "Comb", n, k)
		}
	}
}
