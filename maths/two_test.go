package maths_test

import (
	"testing"

	"octavo/maths"
)

// P17.3

func TestRoundings(t *testing.T) {
	for _, r := range []struct {
		x                 any
		d                 int
		round, away, cuts any
	}{
		{2.5, 0, 3, 3, 2}, {-2.5, 0, -3, -3, -2}, {2.4999, 0, 2, 3, 2}, {-2.4999, 0, -2, -3, -2}, {2.0001, 0, 2, 3, 2}, {0, 0, 0, 0, 0}, {0.5, 0, 1, 1, 0}, {-0.5, 0, -1, -1, 0}, {0.4999, 0, 0, 1, 0}, {7, 0, 7, 7, 7},
		{2.55, 1, 2.6, 2.6, 2.5}, {-2.55, 1, -2.6, -2.6, -2.5}, {2.5499, 1, 2.5, 2.6, 2.5}, {1.2345, 3, 1.235, 1.235, 1.234}, {-1.2345, 3, -1.235, -1.235, -1.234}, {1.2344, 3, 1.234, 1.235, 1.234}, {1.005, 2, 1.01, 1.01, 1}, {1.2345, 4, 1.2345, 1.2345, 1.2345}, {-0.0001, 4, -0.0001, -0.0001, -0.0001}, {0.0001, 3, 0, 0.001, 0},
		{15, -1, 20, 20, 10}, {-15, -1, -20, -20, -10}, {14.9999, -1, 10, 20, 10}, {1234, -2, 1200, 1300, 1200}, {1250, -2, 1300, 1300, 1200}, {-1250, -2, -1300, -1300, -1200}, {4999999, -7, 0, greatest, 0}, {5000000, -7, greatest, greatest, 0}, {-5000000, -7, -greatest, -greatest, 0}, {greatest, -7, greatest, greatest, greatest},
		{greatest, -8, 0, "#NUM!", 0}, {1, -8, 0, "#NUM!", 0}, {0, -8, 0, 0, 0}, {-greatest, -8, 0, "#NUM!", 0}, {greatest, 0, greatest, greatest, greatest}, {below, 0, greatest, greatest, 9999999}, {-below, 3, -greatest, -greatest, -9999999.999},
		{1.5, -9, "#NUM!", "#NUM!", "#NUM!"}, {1.5, 5, "#NUM!", "#NUM!", "#NUM!"}, {0, -9, "#NUM!", "#NUM!", "#NUM!"}, {0, 5, "#NUM!", "#NUM!", "#NUM!"}, {1.5, greatest, "#NUM!", "#NUM!", "#NUM!"}, {1.5, -greatest, "#NUM!", "#NUM!", "#NUM!"},
	} {
		args := with(r.x, r.d)
		rows(t, []row{{"ROUND", args, r.round}, {"ROUNDUP", args, r.away}, {"ROUNDDOWN", args, r.cuts}, {"TRUNC", args, r.cuts}})
	}
}

func TestTruncWithoutPlaces(t *testing.T) {
	rows(t, []row{{"TRUNC", with(2.5), 2}, {"TRUNC", with(-2.5), -2}, {"TRUNC", with(2.9999), 2}, {"TRUNC", with(-0.9999), 0}, {"TRUNC", with(0), 0}, {"TRUNC", with(below), 9999999}, {"TRUNC", with(-below), -9999999}, {"TRUNC", with(greatest), greatest}, {"TRUNC", with(-greatest), -greatest}, {"TRUNC", with(nil), 0}, {"TRUNC", with("2.5"), 2}, {"TRUNC", with(2.5, nil), 2}})
	for _, n := range edges() {
		short, _ := maths.Call("TRUNC", singles(number(n)))
		long, _ := maths.Call("ROUNDDOWN", singles(number(n), of(0)))
		same(t, short, long, "TRUNC", n)
	}
}

func TestModAndQuotient(t *testing.T) {
	rows(t, []row{
		{"MOD", with(7, 3), 1}, {"MOD", with(-7, 3), 2}, {"MOD", with(7, -3), -2}, {"MOD", with(-7, -3), -1}, {"MOD", with(6, 3), 0}, {"MOD", with(-6, 3), 0}, {"MOD", with(0, 3), 0}, {"MOD", with(5.5, 2), 1.5}, {"MOD", with(-5.5, 2), 0.5}, {"MOD", with(1, 0.3), 0.1}, {"MOD", with(0.0001, 5), 0.0001}, {"MOD", with(-0.0001, 5), 4.9999}, {"MOD", with(greatest, 0.0003), 0.0001}, {"MOD", with(-greatest, greatest), 0}, {"MOD", with(-1, greatest), 9999999}, {"MOD", with(1, -greatest), -9999999},
		{"MOD", with(7, 0), "#DIV/0!"}, {"MOD", with(0, 0), "#DIV/0!"}, {"MOD", with(-greatest, 0), "#DIV/0!"}, {"MOD", with(7, nil), "#DIV/0!"}, {"MOD", with(7, "0"), "#DIV/0!"},
		{"QUOTIENT", with(7, 3), 2}, {"QUOTIENT", with(-7, 3), -2}, {"QUOTIENT", with(7, -3), -2}, {"QUOTIENT", with(-7, -3), 2}, {"QUOTIENT", with(2, 3), 0}, {"QUOTIENT", with(-2, 3), 0}, {"QUOTIENT", with(5.5, 0.5), 11}, {"QUOTIENT", with(1, 0.3), 3}, {"QUOTIENT", with(1000, 0.0001), greatest}, {"QUOTIENT", with(1000.0001, 0.0001), "#NUM!"}, {"QUOTIENT", with(-1000, 0.0001), -greatest}, {"QUOTIENT", with(greatest, 0.0001), "#NUM!"}, {"QUOTIENT", with(-greatest, 0.0001), "#NUM!"}, {"QUOTIENT", with(greatest, greatest), 1}, {"QUOTIENT", with(below, greatest), 0},
		{"QUOTIENT", with(7, 0), "#DIV/0!"}, {"QUOTIENT", with(0, 0), "#DIV/0!"}, {"QUOTIENT", with(greatest, false), "#DIV/0!"},
	})
}

func TestPower(t *testing.T) {
	rows(t, []row{
		{"POWER", with(2, 10), 1024}, {"POWER", with(-2, 3), -8}, {"POWER", with(-2, 2), 4}, {"POWER", with(1.5, 2), 2.25}, {"POWER", with(5, 0), 1}, {"POWER", with(-5, 0), 1}, {"POWER", with(0.0001, 0), 1}, {"POWER", with(5, 1), 5}, {"POWER", with(0, 1), 0}, {"POWER", with(0, 64), 0}, {"POWER", with(1, 64), 1}, {"POWER", with(-1, 63), -1}, {"POWER", with(1, -64), 1}, {"POWER", with(10, 7), greatest}, {"POWER", with(0.01, 2), 0.0001}, {"POWER", with(0.001, 2), 0}, {"POWER", with(1.1, 2), 1.21}, {"POWER", with(1.11, 3), 1.3676},
		{"POWER", with(2, -1), 0.5}, {"POWER", with(-2, -1), -0.5}, {"POWER", with(3, -1), 0.3333}, {"POWER", with(2, -2), 0.25}, {"POWER", with(0.0001, -1), 10000}, {"POWER", with(0.01, -2), 10000}, {"POWER", with(greatest, -1), 0},
		{"POWER", with(0, 0), "#NUM!"}, {"POWER", with(0, -1), "#NUM!"}, {"POWER", with(0, -64), "#NUM!"}, {"POWER", with(0.001, -2), "#NUM!"}, {"POWER", with(10, 8), "#NUM!"}, {"POWER", with(10, -8), "#NUM!"}, {"POWER", with(1, 65), "#NUM!"}, {"POWER", with(1, -65), "#NUM!"}, {"POWER", with(4, 0.5), "#NUM!"}, {"POWER", with(4, -0.5), "#NUM!"}, {"POWER", with(greatest, 2), "#NUM!"}, {"POWER", with(-greatest, 3), "#NUM!"}, {"POWER", with(1, greatest), "#NUM!"}, {"POWER", with(nil, nil), "#NUM!"},
	})
}

func TestCombin(t *testing.T) {
	rows(t, []row{
		{"COMBIN", with(5, 2), 10}, {"COMBIN", with(5, 0), 1}, {"COMBIN", with(5, 5), 1}, {"COMBIN", with(0, 0), 1}, {"COMBIN", with(0, 1), 0}, {"COMBIN", with(5, 6), 0}, {"COMBIN", with(5, greatest), 0}, {"COMBIN", with(25, 12), 5200300}, {"COMBIN", with(30, 15), "#NUM!"}, {"COMBIN", with(49, 6), "#NUM!"}, {"COMBIN", with(greatest, 1), greatest}, {"COMBIN", with(greatest, 9999999), greatest}, {"COMBIN", with(greatest, 0), 1}, {"COMBIN", with(greatest, greatest), 1}, {"COMBIN", with(greatest, 2), "#NUM!"}, {"COMBIN", with(greatest, 5000000), "#NUM!"}, {"COMBIN", with(4472, 2), 9997156}, {"COMBIN", with(4473, 2), "#NUM!"},
		{"COMBIN", with(-1, 0), "#NUM!"}, {"COMBIN", with(0, -1), "#NUM!"}, {"COMBIN", with(-5, -2), "#NUM!"}, {"COMBIN", with(5, -2), "#NUM!"}, {"COMBIN", with(5.5, 2), "#NUM!"}, {"COMBIN", with(5, 2.5), "#NUM!"}, {"COMBIN", with(-greatest, 3), "#NUM!"},
	})
}

func TestGcdAndLcm(t *testing.T) {
	rows(t, []row{
		{"GCD", with(12, 18), 6}, {"GCD", with(18, 12), 6}, {"GCD", with(7, 5), 1}, {"GCD", with(0, 5), 5}, {"GCD", with(5, 0), 5}, {"GCD", with(0, 0), 0}, {"GCD", with(1, greatest), 1}, {"GCD", with(greatest, greatest), greatest}, {"GCD", with(greatest, 0), greatest}, {"GCD", with(greatest, 64), 64}, {"GCD", with(9999999, 9999998), 1}, {"GCD", with(3, 3), 3},
		{"GCD", with(-12, 18), "#NUM!"}, {"GCD", with(12, -18), "#NUM!"}, {"GCD", with(-12, -18), "#NUM!"}, {"GCD", with(-1, 0), "#NUM!"}, {"GCD", with(0, -greatest), "#NUM!"}, {"GCD", with(1.5, 3), "#NUM!"}, {"GCD", with(3, 1.5), "#NUM!"},
		{"LCM", with(4, 6), 12}, {"LCM", with(6, 4), 12}, {"LCM", with(7, 5), 35}, {"LCM", with(3, 3), 3}, {"LCM", with(0, 5), 0}, {"LCM", with(5, 0), 0}, {"LCM", with(0, 0), 0}, {"LCM", with(greatest, 0), 0}, {"LCM", with(1, greatest), greatest}, {"LCM", with(greatest, greatest), greatest}, {"LCM", with(greatest, 2), greatest}, {"LCM", with(greatest, 3), "#NUM!"}, {"LCM", with(9999999, 9999998), "#NUM!"}, {"LCM", with(3163, 3162), "#NUM!"}, {"LCM", with(3162, 3161), 9995082},
		{"LCM", with(-4, 6), "#NUM!"}, {"LCM", with(4, -6), "#NUM!"}, {"LCM", with(0, -1), "#NUM!"}, {"LCM", with(-1, 0), "#NUM!"}, {"LCM", with(-greatest, -greatest), "#NUM!"}, {"LCM", with(0.5, 3), "#NUM!"},
	})
}

func TestBits(t *testing.T) {
	for _, r := range []struct {
		a, b         any
		and, or, xor any
	}{
		{12, 10, 8, 14, 6}, {0, 0, 0, 0, 0}, {0, 5, 0, 5, 5}, {5, 0, 0, 5, 5}, {7, 7, 7, 7, 0}, {1, 2, 0, 3, 3}, {255, 256, 0, 511, 511}, {greatest, greatest, greatest, greatest, 0}, {greatest, 0, 0, greatest, greatest}, {greatest, 1, 0, "#NUM!", "#NUM!"}, {9999999, greatest, 9999872, "#NUM!", 255}, {8388608, 1048576, 0, 9437184, 9437184}, {8388607, 8388608, 0, "#NUM!", "#NUM!"}, {8388608, 1611392, 0, greatest, greatest}, {8388608, 1611393, 0, "#NUM!", "#NUM!"},
		{-1, 5, "#NUM!", "#NUM!", "#NUM!"}, {5, -1, "#NUM!", "#NUM!", "#NUM!"}, {-1, -1, "#NUM!", "#NUM!", "#NUM!"}, {0, -1, "#NUM!", "#NUM!", "#NUM!"}, {-greatest, 0, "#NUM!", "#NUM!", "#NUM!"}, {1.5, 1, "#NUM!", "#NUM!", "#NUM!"}, {1, 1.5, "#NUM!", "#NUM!", "#NUM!"}, {true, "3", 1, 3, 2}, {nil, 3, 0, 3, 3},
	} {
		args := with(r.a, r.b)
		rows(t, []row{{"BITAND", args, r.and}, {"BITOR", args, r.or}, {"BITXOR", args, r.xor}})
	}
}

// Each of them at all edges, with each other one.
func TestOfTwoNumbers(t *testing.T) {
	for _, s := range names() {
		l, second := edges(), edges()
		switch takes()[s][len(takes()[s])-1] {
		case "nw":
			second = nil
			for d := -10; d <= 6; d++ {
				second = append(second, d*scale)
			}
		case "nn":
			if s == "POWER" {
				second = []int{1, -1, 5000, -5000, 10001}
				for d := -66; d <= 66; d++ {
					second = append(second, d*scale)
				}
			}
		case "ww":
			l = nil
			for _, n := range wholes() {
				l = append(l, n*scale)
			}
			l = append(l, 1, -1, 5000, 15000)
			second = l
		default:
			continue
		}
		for _, a := range l {
			for _, b := range second {
				likewise(t, s, singles(number(a), number(b)))
			}
		}
	}
}
