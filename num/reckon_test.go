package num_test

import (
	"testing"

	"octavo/api"
	"octavo/num"
)

// P5.2

// row: two numbers, and what a call answers of them.
type row struct{ a, b, want int }

func rows(t *testing.T, what string, call func(a, b int) (int, bool), l []row) {
	t.Helper()
	for _, r := range l {
		n, ok := call(r.a, r.b)
		tells(t, n, ok, r.want, what, r.a, r.b)
	}
}

func none(t *testing.T, what string, call func(a, b int) (int, bool), l [][2]int) {
	t.Helper()
	for _, r := range l {
		n, ok := call(r[0], r[1])
		refuses(t, n, ok, what, r[0], r[1])
	}
}

func TestAddAndSub(t *testing.T) {
	rows(t, "Add", num.Add, []row{{0, 0, 0}, {1, 1, 2}, {1, -1, 0}, {15000, 25000, 40000}, {-15000, 5000, -10000}, {most, 0, most}, {0, -most, -most}, {most - 1, 1, most}, {1 - most, -1, -most}, {most, -most, 0}, {most, -1, most - 1}})
	none(t, "Add", num.Add, [][2]int{{most, 1}, {1, most}, {most, most}, {-most, -1}, {-1, -most}, {-most, -most}, {most - 1, 2}})
	rows(t, "Sub", num.Sub, []row{{0, 0, 0}, {1, 1, 0}, {1, -1, 2}, {15000, 25000, -10000}, {-15000, 5000, -20000}, {most, 0, most}, {0, most, -most}, {0, -most, most}, {most - 1, -1, most}, {most, most, 0}, {-most, -1, 1 - most}})
	none(t, "Sub", num.Sub, [][2]int{{most, -1}, {1, -most}, {most, -most}, {-most, 1}, {-1, most}, {-most, most}})
}

func TestMul(t *testing.T) {
	rows(t, "Mul", num.Mul, []row{
		{0, 0, 0}, {20000, 30000, 60000}, {-20000, 30000, -60000}, {20000, -30000, -60000}, {-20000, -30000, 60000}, {most, 0, 0}, {10000, most, most}, {most, -10000, -most}, {-most, -10000, most},
		// Halves, and what is one beside them.
		{1, 5000, 1}, {-1, 5000, -1}, {1, -5000, -1}, {-1, -5000, 1}, {1, 4999, 0}, {-1, 4999, 0}, {1, 5001, 1}, {3, 5000, 2}, {-3, 5000, -2}, {5, 5000, 3}, {-5, 5000, -3}, {1, 1, 0}, {1, 15000, 2}, {-1, 15000, -2}, {1, 14999, 1}, {99, 99, 1}, {70, 71, 0}, {70, 72, 1}, {12345, 10001, 12346}, {15000, 33333, 50000},
		// The products that are the longest.
		{most - 1, 9999, 99989999999}, {most, 9999, 9999 * most / 10000}, {most - 1, 10000, most - 1}, {most, 1, most / api.Scale}, {31622776, 31622776, 99999996195},
	})
	none(t, "Mul", num.Mul, [][2]int{{most, 10001}, {10001, most}, {most, -10001}, {most, most}, {-most, -most}, {most, 20000}, {31622777, 31622777}, {most - 1, 10001}, {most, -most}})
}

func TestDiv(t *testing.T) {
	rows(t, "Div", num.Div, []row{
		{10000, 30000, 3333}, {20000, 30000, 6667}, {-20000, 30000, -6667}, {20000, -30000, -6667}, {-20000, -30000, 6667}, {-10000, 30000, -3333}, {0, 1, 0}, {0, -most, 0}, {60000, 30000, 20000}, {10000, 25000, 4000}, {15000, 2500, 60000}, {1, 1, 10000}, {-1, 1, -10000}, {10000, 3, 33333333},
		// Halves, and what is one beside them.
		{1, 20000, 1}, {-1, 20000, -1}, {1, -20000, -1}, {-1, -20000, 1}, {3, 20000, 2}, {-3, 20000, -2}, {5, 20000, 3}, {1, 20001, 0}, {-1, 20001, 0}, {1, 19999, 1}, {4999, most / 1000, 0}, {5000, most / 1000, 1}, {-5000, most / 1000, -1}, {-4999, most / 1000, 0},
		// Quotients at the end.
		{most, 10000, most}, {most, -10000, -most}, {most, most, 10000}, {1, most, 0}, {10000000, 1, most}, {-10000000, 1, -most}, {10000000, -1, -most}, {20000000, 2, most}, {most - 1, most, 10000}, {most - 1, 10000, most - 1}, {500, 1, 5000000},
	})
	none(t, "Div", num.Div, [][2]int{{0, 0}, {1, 0}, {-1, 0}, {most, 0}, {10000001, 1}, {-10000001, 1}, {most, 1}, {most, -1}, {most, 9999}, {most - 1, 9999}, {-most, 9999}, {20000001, 2}})
}

func TestPow(t *testing.T) {
	rows(t, "Pow", num.Pow, []row{
		{20000, 30000, 80000}, {-20000, 30000, -80000}, {-20000, 20000, 40000}, {20000, 0, 10000}, {1, 0, 10000}, {-1, 0, 10000}, {most, 0, 10000}, {-most, 0, 10000}, {70000, 10000, 70000}, {most, 10000, most}, {-most, 10000, -most},
		{0, 10000, 0}, {0, 640000, 0}, {10000, 640000, 10000}, {10000, -640000, 10000}, {-10000, 640000, 10000}, {-10000, 630000, -10000}, {-10000, -630000, -10000}, {-10000, -640000, 10000},
		{20000, -10000, 5000}, {20000, -20000, 2500}, {30000, -10000, 3333}, {-30000, -10000, -3333}, {20000, 230000, 83886080000}, {20000, -130000, 1}, {20000, -140000, 1}, {20000, -150000, 0}, {-20000, -130000, -1}, {20000, -230000, 0}, {100000, 70000, most}, {100000, -70000, 0}, {-100000, 70000, -most}, {5000, -10000, 20000}, {1000, -40000, most / 1000}, {1, -10000, most / 1000},
		// Each product is rounded ahead of the next one.
		{5000, 40000, 625}, {5000, 50000, 313}, {5000, 130000, 2}, {5000, 140000, 1}, {5000, 640000, 1}, {-5000, 630000, -1}, {-5000, 640000, 1}, {4999, 640000, 0}, {10001, 640000, 10064}, {9999, 640000, 9936}, {15000, 50000, 75938}, {15000, 100000, 576657}, {5000, -640000, 100000000},
	})
	none(t, "Pow", num.Pow, [][2]int{
		{0, 0}, {0, -10000}, {0, -640000}, {4999, -640000}, {1, -20000},
		{10000, 650000}, {10000, -650000}, {10000, most}, {10000, -most}, {10000, 640001}, {10000, -640001}, {0, 650000},
		{20000, 5000}, {20000, 1}, {20000, -1}, {20000, 15000}, {20000, -15000}, {10000, 9999}, {10000, 10001}, {0, 1}, {10000, 639999},
		{20000, 240000}, {20000, -240000}, {20000, 640000}, {20000, -640000}, {-20000, 640000}, {100000, 80000}, {100000, -80000}, {most, 20000}, {most, -20000}, {-most, 20000}, {-most, 640000},
	})
}

func TestMod(t *testing.T) {
	rows(t, "Mod", num.Mod, []row{
		{-70000, 30000, 20000}, {70000, 30000, 10000}, {70000, -30000, -20000}, {-70000, -30000, -10000}, {60000, 30000, 0}, {-60000, 30000, 0}, {60000, -30000, 0}, {0, 30000, 0}, {0, -1, 0},
		{10000, 3333, 1}, {-10000, 3333, 3332}, {10000, -3333, -3332}, {25000, 10000, 5000}, {-25000, 10000, 5000}, {25000, -10000, -5000}, {5, 7, 5}, {-5, 7, 2}, {5, -7, -2}, {-5, -7, -5},
		{most, 1, 0}, {most, most, 0}, {-most, most, 0}, {1, most, 1}, {-1, most, most - 1}, {1, -most, 1 - most}, {most - 1, most, most - 1}, {most, 1 - most, 2 - most}, {-most, most - 1, most - 2},
	})
	none(t, "Mod", num.Mod, [][2]int{{0, 0}, {1, 0}, {-1, 0}, {most, 0}})
}

func TestQuo(t *testing.T) {
	rows(t, "Quo", num.Quo, []row{
		{70000, 30000, 20000}, {-70000, 30000, -20000}, {70000, -30000, -20000}, {-70000, -30000, 20000}, {60000, 30000, 20000}, {29999, 30000, 0}, {-29999, 30000, 0}, {30000, 30000, 10000}, {0, 30000, 0}, {0, -1, 0},
		{10000, 3333, 30000}, {-10000, 3333, -30000}, {25000, 10000, 20000}, {-25000, 10000, -20000}, {15000, 2500, 60000}, {1, 1, 10000}, {5, -2, -20000},
		{most, 10000, most}, {-most, 10000, -most}, {most, -10000, -most}, {most, most, 10000}, {most - 1, most, 0}, {1, most, 0}, {10000000, 1, most}, {20000001, 2, most}, {most, 10001, 99990000000},
	})
	none(t, "Quo", num.Quo, [][2]int{{0, 0}, {1, 0}, {-1, 0}, {most, 0}, {most, 1}, {most, -1}, {-most, 1}, {10000001, 1}, {-10000001, 1}, {20000002, 2}, {most, 9999}})
}

// All calls of two numbers, held against fractions that are exact.
func TestReckoningOfAnyPairs(t *testing.T) {
	for _, p := range pairs() {
		a, b := p[0], p[1]
		n, ok := num.Add(a, b)
		want, fine := of(a, b, sum)
		answers(t, n, ok, want, fine, "Add", a, b)
		n, ok = num.Sub(a, b)
		want, fine = of(a, b, difference)
		answers(t, n, ok, want, fine, "Sub", a, b)
		n, ok = num.Mul(a, b)
		want, fine = of(a, b, product)
		answers(t, n, ok, want, fine, "Mul", a, b)
		n, ok = num.Div(a, b)
		want, fine = of(a, b, quotient)
		answers(t, n, ok, want, fine, "Div", a, b)
		n, ok = num.Mod(a, b)
		want, fine = of(a, b, left)
		answers(t, n, ok, want, fine, "Mod", a, b)
		n, ok = num.Quo(a, b)
		want, fine = of(a, b, wholeQuotient)
		answers(t, n, ok, want, fine, "Quo", a, b)
		n, ok = num.Pow(a, b)
		want, fine = power(a, b)
		answers(t, n, ok, want, fine, "Pow", a, b)
	}
}

// Each power, and those beyond, of bases that stay small and of some that do not.
func TestAllPowers(t *testing.T) {
	for _, a := range append(edges(), 9998, 10002, 9900, 10100, 12500, -12500, 11000, -11000, 8000, 200000, 1000) {
		for k := -66; k <= 66; k++ {
			for _, rest := range []int{0, 1, -1, 5000} {
				n, ok := num.Pow(a, k*api.Scale+rest)
				want, fine := power(a, k*api.Scale+rest)
				answers(t, n, ok, want, fine, "Pow", a, k*api.Scale+rest)
			}
		}
	}
}

// Numbers that are not good, in each place.
func TestReckoningRefusesWhatIsNotGood(t *testing.T) {
	calls := map[string]func(a, b int) (int, bool){"Add": num.Add, "Sub": num.Sub, "Mul": num.Mul, "Div": num.Div, "Pow": num.Pow, "Mod": num.Mod, "Quo": num.Quo}
	for what, call := range calls {
		for _, a := range bad() {
			for _, b := range append(edges(), bad()...) {
				n, ok := call(a, b)
				refuses(t, n, ok, what, a, b)
				n, ok = call(b, a)
				refuses(t, n, ok, what, b, a)
			}
		}
	}
}
