package maths_test

import (
	"math/rand"
	"strconv"
	"strings"
	"testing"

	"octavo/api"
)

// P17.4

func TestPi(t *testing.T) {
	rows(t, []row{{"PI", nil, 3.1416}, {"PI", with(1), "#VALUE!"}, {"PI", with(nil), "#VALUE!"}, {"PI", with(1, 2), "#VALUE!"}})
	answers(t, "PI", []api.Area{}, of(3.1416))
}

func TestBase(t *testing.T) {
	rows(t, []row{
		{"BASE", with(255, 16), "FF"}, {"BASE", with(0, 2), "0"}, {"BASE", with(0, 36), "0"}, {"BASE", with(1, 2), "1"}, {"BASE", with(2, 2), "10"}, {"BASE", with(5, 2), "101"}, {"BASE", with(123, 10), "123"}, {"BASE", with(35, 36), "Z"}, {"BASE", with(36, 36), "10"}, {"BASE", with(10, 11), "A"}, {"BASE", with(9, 10), "9"}, {"BASE", with(greatest, 10), "10000000"}, {"BASE", with(greatest, 2), "100110001001011010000000"}, {"BASE", with(greatest, 36), "5YC1S"}, {"BASE", with(greatest, 16), "989680"}, {"BASE", with(9999999, 10), "9999999"}, {"BASE", with("255", "16"), "FF"}, {"BASE", with(nil, 2), "0"},
		{"BASE", with(255, 1), "#NUM!"}, {"BASE", with(255, 0), "#NUM!"}, {"BASE", with(255, -2), "#NUM!"}, {"BASE", with(255, -16), "#NUM!"}, {"BASE", with(255, 37), "#NUM!"}, {"BASE", with(255, 64), "#NUM!"}, {"BASE", with(255, greatest), "#NUM!"}, {"BASE", with(255, -greatest), "#NUM!"}, {"BASE", with(0, 1), "#NUM!"}, {"BASE", with(0, 37), "#NUM!"}, {"BASE", with(255, nil), "#NUM!"}, {"BASE", with(255, true), "#NUM!"},
		{"BASE", with(-1, 16), "#NUM!"}, {"BASE", with(-greatest, 16), "#NUM!"}, {"BASE", with(-1, 1), "#NUM!"}, {"BASE", with(0.5, 16), "#NUM!"}, {"BASE", with(-0.5, 16), "#NUM!"}, {"BASE", with(255, 16.5), "#NUM!"}, {"BASE", with("x", 16), "#VALUE!"}, {"BASE", with(255, "x"), "#VALUE!"}, {"BASE", with(255, ""), "#VALUE!"},
	})
}

func TestDecimal(t *testing.T) {
	rows(t, []row{
		{"DECIMAL", with("FF", 16), 255}, {"DECIMAL", with("ff", 16), 255}, {"DECIMAL", with("fF", 16), 255}, {"DECIMAL", with("0", 2), 0}, {"DECIMAL", with("101", 2), 5}, {"DECIMAL", with(101, 2), 5}, {"DECIMAL", with("z", 36), 35}, {"DECIMAL", with("Z", 36), 35}, {"DECIMAL", with("10", 36), 36}, {"DECIMAL", with("123", 10), 123}, {"DECIMAL", with(true, 36), 1389110}, {"DECIMAL", with(false, 36), "#NUM!"}, {"DECIMAL", with("5YC1S", 36), greatest}, {"DECIMAL", with("5yc1t", 36), "#NUM!"}, {"DECIMAL", with("10000000", 10), greatest}, {"DECIMAL", with(greatest, 10), greatest}, {"DECIMAL", with("10000001", 10), "#NUM!"},
		// Digits: 10 at most, and not none.
		{"DECIMAL", with("", 10), "#NUM!"}, {"DECIMAL", with(nil, 10), "#NUM!"}, {"DECIMAL", with("0000000001", 10), 1}, {"DECIMAL", with("00000000001", 10), "#NUM!"}, {"DECIMAL", with("1111111111", 2), 1023}, {"DECIMAL", with("11111111111", 2), "#NUM!"}, {"DECIMAL", with("00000000000", 2), "#NUM!"}, {"DECIMAL", with("9999999999", 10), "#NUM!"}, {"DECIMAL", with("zzzzzzzzzz", 36), "#NUM!"}, {"DECIMAL", with("zzzzzzzzzzz", 36), "#NUM!"}, {"DECIMAL", with(strings.Repeat("0", 255), 10), "#NUM!"}, {"DECIMAL", with("1y2p0ij32e", 36), "#NUM!"}, {"DECIMAL", with("0000000ZZZ", 36), 46655},
		// Those that the base does not have, and signs.
		{"DECIMAL", with("2", 2), "#NUM!"}, {"DECIMAL", with("12", 2), "#NUM!"}, {"DECIMAL", with("21", 2), "#NUM!"}, {"DECIMAL", with("A", 10), "#NUM!"}, {"DECIMAL", with("9", 10), 9}, {"DECIMAL", with("g", 16), "#NUM!"}, {"DECIMAL", with("fg", 16), "#NUM!"}, {"DECIMAL", with("gf", 16), "#NUM!"}, {"DECIMAL", with("z", 35), "#NUM!"}, {"DECIMAL", with("y", 35), 34},
		{"DECIMAL", with("-1", 10), "#NUM!"}, {"DECIMAL", with(-1, 10), "#NUM!"}, {"DECIMAL", with("+1", 10), "#NUM!"}, {"DECIMAL", with("1.5", 10), "#NUM!"}, {"DECIMAL", with(1.5, 10), "#NUM!"}, {"DECIMAL", with(" 1", 10), "#NUM!"}, {"DECIMAL", with("1 ", 10), "#NUM!"}, {"DECIMAL", with("1_0", 10), "#NUM!"}, {"DECIMAL", with("0x1f", 16), "#NUM!"}, {"DECIMAL", with("1,0", 10), "#NUM!"}, {"DECIMAL", with("-", 10), "#NUM!"}, {"DECIMAL", with("٣", 10), "#NUM!"}, {"DECIMAL", with("é", 36), "#NUM!"}, {"DECIMAL", with("\xff", 36), "#NUM!"}, {"DECIMAL", with("\u212a", 36), "#NUM!"}, {"DECIMAL", with("ſ", 36), "#NUM!"}, {"DECIMAL", with("１", 10), "#NUM!"}, {"DECIMAL", with("1\x00", 10), "#NUM!"},
		// Bases.
		{"DECIMAL", with("1", 1), "#NUM!"}, {"DECIMAL", with("0", 1), "#NUM!"}, {"DECIMAL", with("0", 0), "#NUM!"}, {"DECIMAL", with("1", 37), "#NUM!"}, {"DECIMAL", with("0", 37), "#NUM!"}, {"DECIMAL", with("1", -2), "#NUM!"}, {"DECIMAL", with("1", greatest), "#NUM!"}, {"DECIMAL", with("1", 10.5), "#NUM!"}, {"DECIMAL", with("1", "x"), "#VALUE!"}, {"DECIMAL", with("1", "10"), 1}, {"DECIMAL", with("1", nil), "#NUM!"}, {"DECIMAL", with("1", true), "#NUM!"},
		{"DECIMAL", with("#N/A", 36), "#N/A"}, {"DECIMAL", with(text("#N/A"), 36), "#NUM!"}, {"DECIMAL", with("1", "#N/A"), "#N/A"},
	})
}

// All bytes as digits, at each place, to all bases.
func TestDigits(t *testing.T) {
	for b := 0; b <= 40; b++ {
		for c := range 256 {
			s := string([]byte{byte(c)})
			for _, s := range []string{s, "1" + s, s + "1", "1" + s + "1"} {
				likewise(t, "DECIMAL", singles(text(s), of(b)))
			}
		}
		for n := range 12 {
			for _, s := range []string{strings.Repeat("1", n), strings.Repeat("0", n), strings.Repeat("0", n) + "1"} {
				likewise(t, "DECIMAL", singles(text(s), of(b)))
			}
		}
		for _, n := range wholes() {
			likewise(t, "BASE", singles(of(n), of(b)))
		}
	}
}

// About the greatest number, to all bases.
func TestDecimalAtTheEnd(t *testing.T) {
	for b := 5; b <= 36; b++ {
		for n := greatest - 40; n <= greatest+40; n++ {
			s := strconv.FormatInt(int64(n), b)
			v := likewise(t, "DECIMAL", singles(text(s), of(b)))
			if want := n <= greatest && len(s) <= 10; (v.Kind == api.Num) != want {
				t.Fatal(s, b, v)
			}
		}
	}
}

func TestDecimalOfAny(t *testing.T) {
	r := rand.New(rand.NewSource(3))
	fine := 0
	for range 50000 {
		if v := likewise(t, "DECIMAL", singles(text(anyDigits(r)), of(1+r.Intn(37)))); v.Kind == api.Num {
			fine++
		}
	}
	if fine < 3000 {
		t.Fatalf("only %d are numbers", fine)
	}
}
