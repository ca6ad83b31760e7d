package num_test

import (
	"math"
	"math/big"
	"math/rand"
	"regexp"
	"strconv"
	"strings"
	"testing"

	"octavo/api"
	"octavo/num"
)

func parsed(t *testing.T, s string, want int) {
	t.Helper()
	n, ok := num.Parse(s)
	tells(t, n, ok, want, "Parse", strconv.Quote(s))
}

func unparsed(t *testing.T, s string) {
	t.Helper()
	n, ok := num.Parse(s)
	refuses(t, n, ok, "Parse", strconv.Quote(s))
}

func printed(t *testing.T, n int, want string) {
	t.Helper()
	if got := num.Print(n); got != want {
		t.Fatalf("Print %d: %q, want %q", n, got, want)
	}
}

// P5.1

func TestGood(t *testing.T) {
	for _, n := range append(edges(), some(1000, 3)...) {
		if !num.Good(n) {
			t.Fatalf("%d is not good", n)
		}
	}
	for _, n := range bad() {
		if num.Good(n) {
			t.Fatalf("%d is good", n)
		}
	}
}

func TestParse(t *testing.T) {
	for s, want := range map[string]int{
		"-1.25": -12500, "0": 0, "1": 10000, "-1": -10000, "7": 70000, "10": 100000,
		"-0": 0, "-0.0": 0, "0.0000": 0, "00": 0, "007": 70000, "-007.50": -75000,
		"0.0001": 1, "-0.0001": -1, "0.001": 10, "0.01": 100, "0.1": 1000, "0.1000": 1000, "0.0100": 100,
		"1.5": 15000, "1.50": 15000, "1.05": 10500, "1.0005": 10005, "3.1415": 31415, "9.9999": 99999,
		"000000000000": 0, "000000000001": 10000, "000010000000": most, "000009999999.9999": most - 1,
		"10000000": most, "-10000000": -most, "10000000.0000": most, "-10000000.0000": -most,
		"9999999.9999": most - 1, "-9999999.9999": 1 - most,
	} {
		parsed(t, s, want)
	}
}

func TestParseTakesNothingElse(t *testing.T) {
	for _, s := range []string{
		"", "-", "--1", "-+1", "+1", "+", "+-1", "- 1", "1-", "1-1", "-1-", "-.", "-.5", ".5", ".", "..", "5.", "-5.", "1..5", "1.5.", ".1.5", "1.2.3", "1.-5", "1.+5",
		" ", " 1", "1 ", "1 1", "1. 5", "1 .5", "\t1", "1\n", "\u00a01", "1\x00", "\x001", "1,5", "1_000", "1'000", "1e3", "1E3", "0x10", "0b1", "a", "1a", "a1", "1.a", "Inf", "NaN", "#", "1%", "(1)", "/", ":", "1/", "1:", "1./", "1.:",
		"٣", "1٣", "1.٣", "１", "1.１", "²", "½", "Ⅷ", "−1", "1\u0301", "\ufeff1",
		"\xff", "1\xff", "\xff1", "1.\xff", "-\xff", "\xc3", "1\xc3", "\xc0\xb1", "1.\xe2\x82", "\xb1",
		"0000000000000", "0000000000001", "1234567890123", "-1234567890123", "0000000000001.5", strings.Repeat("0", 100), strings.Repeat("9", 20), strings.Repeat("1", 300000),
		"0.00000", "1.00000", "1.12345", "-1.12345", "0.00001", "1." + strings.Repeat("0", 100), "1." + strings.Repeat("3", 300000),
		"10000000.0001", "-10000000.0001", "10000001", "-10000001", "1234567890", "100000000000", "999999999999", "-999999999999", "999999999999.9999", "-999999999999.9999", "9223372036854775807",
	} {
		unparsed(t, s)
	}
}

var form = regexp.MustCompile(`\A-?[0-9]{1,12}(\.[0-9]{1,4})?\z`)

// parse: the number of a text, by a second way.
func parse(s string) (int, bool) {
	if !form.MatchString(s) {
		return 0, false
	}
	x, _ := new(big.Rat).SetString(s)
	return stands(x)
}

// Texts of any few of the characters that numbers are made of, and of some that they are not.
func TestParseOfAnyTexts(t *testing.T) {
	r := rand.New(rand.NewSource(4))
	const signs = "0123456789012345678901234567890123456789..--+ e\xff٣"
	fine := 0
	for range 60000 {
		b := make([]byte, r.Intn(19))
		for i := range b {
			b[i] = signs[r.Intn(len(signs))]
		}
		if len(b) > 6 && r.Intn(2) == 0 { // one point, at a place that may be
			for i := range b {
				b[i] = signs[r.Intn(40)]
			}
			b[len(b)-1-r.Intn(6)] = '.'
			copy(b, []string{"-", "0000", "-00000", ""}[r.Intn(4)])
		}
		n, ok := num.Parse(string(b))
		want, is := parse(string(b))
		answers(t, n, ok, want, is, "Parse", strconv.Quote(string(b)))
		if ok {
			fine++
		}
	}
	if fine < 1000 {
		t.Fatalf("only %d texts were numbers", fine)
	}
}

// How many digits there may be, on each side of the point.
func TestParseCountsDigits(t *testing.T) {
	for ahead := range 16 {
		for behind := -1; behind < 8; behind++ {
			for _, sign := range []string{"", "-"} {
				s := sign + strings.Repeat("0", ahead)
				if ahead > 0 {
					s = s[:len(s)-1] + "3"
				}
				want := 3 * api.Scale
				if behind >= 0 {
					s += "." + strings.Repeat("0", behind)
				}
				if behind > 0 {
					s = s[:len(s)-1] + "7"
					want += 7 * api.Scale / int(math.Pow10(behind))
				}
				if ahead < 1 || ahead > 12 || behind == 0 || behind > 4 {
					unparsed(t, s)
				} else if sign == "-" {
					parsed(t, s, -want)
				} else {
					parsed(t, s, want)
				}
			}
		}
	}
}

func TestPrint(t *testing.T) {
	for n, want := range map[int]string{
		-12500: "-1.25", 0: "0", 1: "0.0001", -1: "-0.0001", 10: "0.001", 100: "0.01", 1000: "0.1", -1000: "-0.1", 9999: "0.9999", -9999: "-0.9999",
		10000: "1", -10000: "-1", 10001: "1.0001", 10010: "1.001", 10100: "1.01", 11000: "1.1", 12340: "1.234", 15000: "1.5", 100000: "10", 1000000: "100", -1000500: "-100.05",
		most: "10000000", -most: "-10000000", most - 1: "9999999.9999", 1 - most: "-9999999.9999", most + 1: "10000000.0001", -most - 1: "-10000000.0001",
		math.MaxInt: "922337203685477.5807", math.MinInt: "-922337203685477.5808", math.MinInt + 1: "-922337203685477.5807", math.MaxInt - 7: "922337203685477.58", math.MinInt + 5808: "-922337203685477",
	} {
		printed(t, n, want)
	}
}

// The shortest text: no zeros that say nothing, whatever the int is.
func TestPrintOfAnyInts(t *testing.T) {
	l := append(append(edges(), bad()...), some(20000, 5)...)
	for n := -20000; n <= 20000; n++ {
		l = append(l, n)
	}
	for shift := range 63 {
		l = append(l, math.MaxInt>>shift, math.MinInt>>shift)
	}
	for _, n := range l {
		want := fraction(n).FloatString(4)
		printed(t, n, strings.TrimSuffix(strings.TrimRight(want, "0"), "."))
	}
}
