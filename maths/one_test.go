package maths_test

import (
	"testing"

	"octavo/api"
)

// P17.2

// ends: the greatest number, the number nearest to it, and the least ones.
const (
	greatest = 10000000
	below    = 9999999.9999
)

func TestAbsAndSign(t *testing.T) {
	rows(t, []row{
		{"ABS", with(0), 0}, {"ABS", with(2.5), 2.5}, {"ABS", with(-2.5), 2.5}, {"ABS", with(0.0001), 0.0001}, {"ABS", with(-0.0001), 0.0001}, {"ABS", with(greatest), greatest}, {"ABS", with(-greatest), greatest}, {"ABS", with(-below), below},
		{"SIGN", with(0), 0}, {"SIGN", with(2.5), 1}, {"SIGN", with(-2.5), -1}, {"SIGN", with(0.0001), 1}, {"SIGN", with(-0.0001), -1}, {"SIGN", with(greatest), 1}, {"SIGN", with(-greatest), -1},
	})
}

func TestIntCeilingFloor(t *testing.T) {
	for _, s := range []string{"INT", "FLOOR"} {
		rows(t, []row{
			{s, with(0), 0}, {s, with(2), 2}, {s, with(2.5), 2}, {s, with(2.9999), 2}, {s, with(0.0001), 0}, {s, with(-0.0001), -1}, {s, with(-2), -2}, {s, with(-2.5), -3}, {s, with(-2.9999), -3}, {s, with(-2.0001), -3},
			{s, with(greatest), greatest}, {s, with(-greatest), -greatest}, {s, with(below), 9999999}, {s, with(-below), -greatest},
		})
	}
	rows(t, []row{
		{"CEILING", with(0), 0}, {"CEILING", with(2), 2}, {"CEILING", with(2.5), 3}, {"CEILING", with(2.0001), 3}, {"CEILING", with(0.0001), 1}, {"CEILING", with(-0.0001), 0}, {"CEILING", with(-2), -2}, {"CEILING", with(-2.5), -2}, {"CEILING", with(-2.9999), -2},
		{"CEILING", with(greatest), greatest}, {"CEILING", with(-greatest), -greatest}, {"CEILING", with(below), greatest}, {"CEILING", with(-below), -9999999},
	})
}

func TestEvenAndOdd(t *testing.T) {
	rows(t, []row{
		{"EVEN", with(0), 0}, {"EVEN", with(0.0001), 2}, {"EVEN", with(-0.0001), -2}, {"EVEN", with(0.5), 2}, {"EVEN", with(1), 2}, {"EVEN", with(-1), -2}, {"EVEN", with(1.5), 2}, {"EVEN", with(-1.5), -2}, {"EVEN", with(2), 2}, {"EVEN", with(-2), -2}, {"EVEN", with(2.0001), 4}, {"EVEN", with(-2.0001), -4}, {"EVEN", with(3), 4}, {"EVEN", with(-3), -4}, {"EVEN", with(3.9999), 4},
		{"EVEN", with(greatest), greatest}, {"EVEN", with(-greatest), -greatest}, {"EVEN", with(below), greatest}, {"EVEN", with(-below), -greatest}, {"EVEN", with(9999999), greatest}, {"EVEN", with(9999998), 9999998}, {"EVEN", with(9999998.0001), greatest},
		{"ODD", with(0), 1}, {"ODD", with(0.0001), 1}, {"ODD", with(-0.0001), -1}, {"ODD", with(0.5), 1}, {"ODD", with(-0.5), -1}, {"ODD", with(1), 1}, {"ODD", with(-1), -1}, {"ODD", with(1.0001), 3}, {"ODD", with(-1.0001), -3}, {"ODD", with(2), 3}, {"ODD", with(-2), -3}, {"ODD", with(2.9999), 3}, {"ODD", with(3), 3}, {"ODD", with(-3), -3}, {"ODD", with(3.5), 5}, {"ODD", with(-4), -5},
		{"ODD", with(greatest), "#NUM!"}, {"ODD", with(-greatest), "#NUM!"}, {"ODD", with(below), "#NUM!"}, {"ODD", with(-below), "#NUM!"}, {"ODD", with(9999999.0001), "#NUM!"}, {"ODD", with(-9999999.0001), "#NUM!"}, {"ODD", with(9999999), 9999999}, {"ODD", with(-9999999), -9999999}, {"ODD", with(9999998), 9999999}, {"ODD", with(9999997.5), 9999999},
	})
}

func TestIsEvenAndIsOdd(t *testing.T) {
	for _, r := range []struct {
		x    any
		even bool
	}{
		{0, true}, {0.0001, true}, {0.5, true}, {0.9999, true}, {-0.0001, true}, {-0.9999, true}, {1, false}, {1.5, false}, {1.9999, false}, {-1, false}, {-1.5, false}, {-1.9999, false}, {2, true}, {2.5, true}, {-2, true}, {-2.9999, true}, {3, false}, {-3, false}, {-3.5, false},
		{greatest, true}, {-greatest, true}, {below, false}, {-below, false}, {9999999, false}, {9999998.5, true}, {nil, true}, {true, false}, {"-3.5", false},
	} {
		rows(t, []row{{"ISEVEN", with(r.x), r.even}, {"ISODD", with(r.x), !r.even}})
	}
	rows(t, []row{{"ISEVEN", with("x"), "#VALUE!"}, {"ISODD", with("#N/A"), "#N/A"}})
}

func TestSqrt(t *testing.T) {
	rows(t, []row{
		{"SQRT", with(0), 0}, {"SQRT", with(1), 1}, {"SQRT", with(4), 2}, {"SQRT", with(2), 1.4142}, {"SQRT", with(3), 1.7320}, {"SQRT", with(0.25), 0.5}, {"SQRT", with(0.0001), 0.01}, {"SQRT", with(0.0003), 0.0173}, {"SQRT", with(greatest), 3162.2776}, {"SQRT", with(below), 3162.2776}, {"SQRT", with(3.9999), 1.9999},
		{"SQRT", with(-0.0001), "#NUM!"}, {"SQRT", with(-1), "#NUM!"}, {"SQRT", with(-4), "#NUM!"}, {"SQRT", with(-greatest), "#NUM!"},
	})
}

func TestFact(t *testing.T) {
	rows(t, []row{
		{"FACT", with(0), 1}, {"FACT", with(1), 1}, {"FACT", with(2), 2}, {"FACT", with(3), 6}, {"FACT", with(5), 120}, {"FACT", with(9), 362880}, {"FACT", with(10), 3628800}, {"FACT", with(11), "#NUM!"}, {"FACT", with(12), "#NUM!"}, {"FACT", with(20), "#NUM!"}, {"FACT", with(21), "#NUM!"}, {"FACT", with(25), "#NUM!"}, {"FACT", with(66), "#NUM!"}, {"FACT", with(greatest), "#NUM!"},
		{"FACT", with(-1), "#NUM!"}, {"FACT", with(-greatest), "#NUM!"}, {"FACT", with(0.5), "#NUM!"}, {"FACT", with(2.0001), "#NUM!"}, {"FACT", with(-0.5), "#NUM!"}, {"FACT", with(below), "#NUM!"},
	})
}

// Each of them at all edges, and at all numbers about 0.
func TestOfOneNumber(t *testing.T) {
	l := edges()
	for n := -60000; n <= 60000; n += 500 {
		l = append(l, n-1, n, n+1)
	}
	for _, n := range wholes() {
		l = append(l, n*scale)
	}
	for _, s := range names() {
		if takes()[s][0] != "n" && s != "FACT" {
			continue
		}
		for _, n := range l {
			likewise(t, s, []api.Area{single(number(n))})
		}
	}
}
