package num_test

import (
	"math"
	"strings"
	"testing"

	"octavo/num"
)

// ints: numbers and others, small ones that places, ways and counts may be among them.
func ints() []int {
	l := append(edges(), bad()...)
	for n := -10; n <= 12; n++ {
		l = append(l, n)
	}
	return append(l, 64, 65, -64, -65, math.MaxInt32, math.MinInt32, math.MaxInt/2, math.MinInt/2)
}

// texts: of all sorts.
func texts() []string {
	l := []string{"", "-", ".", "-.", strings.Repeat("-", 1000), strings.Repeat("9", 1<<20), strings.Repeat(".", 1<<20), strings.Repeat("\xff", 1000), "\x00", "٣"}
	for c := range 256 {
		for _, s := range []string{"", "1", "-1", "1.", "1.5"} {
			l = append(l, string([]byte{byte(c)})+s, s+string([]byte{byte(c)}))
		}
	}
	return l
}

// all: what every call answers, told to see.
func all(see func(what string, n int, ok bool)) {
	two := map[string]func(a, b int) (int, bool){"Add": num.Add, "Sub": num.Sub, "Mul": num.Mul, "Div": num.Div, "Pow": num.Pow, "Mod": num.Mod, "Quo": num.Quo, "Comb": num.Comb}
	one := map[string]func(n int) (int, bool){"Sqrt": num.Sqrt, "Whole": num.Whole, "Fact": num.Fact}
	for _, s := range texts() {
		n, ok := num.Parse(s)
		see("Parse "+s, n, ok)
	}
	for _, a := range ints() {
		for what, call := range one {
			n, ok := call(a)
			see(what+" "+num.Print(a), n, ok)
		}
		for _, b := range ints() {
			for what, call := range two {
				n, ok := call(a, b)
				see(what+" "+num.Print(a)+" "+num.Print(b), n, ok)
			}
			n := num.Gcd(a, b)
			see("Gcd "+num.Print(a)+" "+num.Print(b), n, n != 0)
		}
		for d := -10; d <= 6; d++ {
			n, ok := num.Round(a, d, d/2)
			see("Round "+num.Print(a)+" "+num.Print(d), n, ok)
			n, ok = num.Round(7, a, d)
			see("Round of 7 "+num.Print(a)+" "+num.Print(d), n, ok)
			n, ok = num.Round(7, d, a)
			see("Round of 7 by "+num.Print(a)+" "+num.Print(d), n, ok)
		}
	}
}

// R1, R2, R7: nothing panics; what is answered is good; beside a false is 0.

func TestAnswersAreGoodOrNone(t *testing.T) {
	some := 0
	all(func(what string, n int, ok bool) {
		if ok {
			some++
		}
		if ok && !within(n) || !ok && n != 0 {
			t.Fatalf("%s: %d %v", what, n, ok)
		}
	})
	if some < 1000 {
		t.Fatalf("only %d calls answered", some)
	}
}

// R4

func TestCallsAnswerTheSameAgain(t *testing.T) {
	type pair struct {
		n  int
		ok bool
	}
	was := map[string]pair{}
	all(func(what string, n int, ok bool) { was[what] = pair{n, ok} })
	all(func(what string, n int, ok bool) {
		if was[what] != (pair{n, ok}) {
			t.Fatalf("%s: %d %v, then %d %v", what, was[what].n, was[what].ok, n, ok)
		}
	})
}
