package maths_test

import (
	"fmt"
	"math/rand"
	"slices"
	"strings"
	"testing"

	"octavo/api"
	"octavo/maths"
)

// P17.1

func TestNames(t *testing.T) {
	if len(names()) != 27 {
		t.Fatalf("%d names", len(names()))
	}
	for _, s := range names() {
		same(t, maths.Known(s), true, "Known", s)
		for n := range 5 {
			if _, ok := maths.Call(s, make([]api.Area, n)); !ok {
				t.Fatalf("Call %s of %d: false", s, n)
			}
		}
	}
}

func TestOtherNames(t *testing.T) {
	l := []string{
		"", " ", "abs", "Abs", "aBS", "ABs", " ABS", "ABS ", "ABS(", "ABS()", "ABSABS", "AB", "A", "\x00", "ABS\x00", "\xff", "é", "NONE", "SUM", "LEN", "IF", "TRUE", "AND", "MIN", "ROW", "IFERROR", "COUNT", "ROWS", "INDEX",
		"ROUNDS", "ROUN", "ROUND0", "PI()", "pi", "P", "EXP", "LN", "LOG", "RAND", "NOW", "SIN", "FACTDOUBLE", "PRODUCT", "MODE", "BIT", "BITNOT", "BITS", "DEC", "CEIL", "POW", "QUO", "COMB", "1", "#N/A", strings.Repeat("ABS", 100000),
	}
	for _, s := range names() {
		l = append(l, strings.ToLower(s), s[:1]+strings.ToLower(s[1:]), s+"S", s+" ", " "+s, s+"_", "_"+s, s[1:], s+s)
		l = append(l, strings.ToLower(s[:1])+s[1:])
	}
	known := names()
	for _, s := range l {
		if slices.Contains(known, s) {
			continue
		}
		same(t, maths.Known(s), false, "Known", s)
		for _, args := range [][]api.Area{nil, {}, singles(of(1)), singles(of(1), of(2)), singles(of("#REF!")), {{}}} {
			v, ok := maths.Call(s, args)
			same(t, v, blank, "Call", s)
			same(t, ok, false, "Call", s)
		}
	}
}

// counts: of how many arguments a function is.
func counts(name string) []int {
	var l []int
	for _, s := range takes()[name] {
		l = append(l, len(s))
	}
	return l
}

func TestCounts(t *testing.T) {
	for _, s := range names() {
		for n := range 20 {
			if slices.Contains(counts(s), n) {
				continue
			}
			for _, v := range append(values(), of(2)) {
				answers(t, s, singles(slices.Repeat([]api.Value{v}, n)...), of("#VALUE!"))
			}
			answers(t, s, make([]api.Area, n), of("#VALUE!"))
		}
	}
	for _, s := range names() {
		for _, l := range fitting(s) {
			v, ok := maths.Call(s, singles(l...))
			same(t, v.Kind != api.Bad && ok, true, s, l)
		}
	}
	rows(t, []row{
		{"ABS", nil, "#VALUE!"}, {"ABS", with(1, 2), "#VALUE!"}, {"PI", with(1), "#VALUE!"}, {"PI", with(nil), "#VALUE!"}, {"PI", with("#REF!"), "#VALUE!"}, {"PI", with(api.Area{}), "#VALUE!"},
		{"ROUND", with(1), "#VALUE!"}, {"ROUND", with(1, 2, 3), "#VALUE!"}, {"TRUNC", nil, "#VALUE!"}, {"TRUNC", with(1, 2, 3), "#VALUE!"}, {"MOD", with(1), "#VALUE!"}, {"MOD", with(1, 0, 0), "#VALUE!"}, {"GCD", with(12), "#VALUE!"}, {"GCD", with(12, 18, 6), "#VALUE!"}, {"BASE", with(255), "#VALUE!"}, {"BASE", with(255, 16, 4), "#VALUE!"}, {"DECIMAL", with("ff"), "#VALUE!"}, {"DECIMAL", with("ff", 16, 1), "#VALUE!"}, {"DECIMAL", nil, "#VALUE!"},
	})
}

// fitting: for each argument of name a value that it may have, told for each count that name takes.
func fitting(name string) [][]api.Value {
	var l [][]api.Value
	for _, s := range takes()[name] {
		args := []api.Value{}
		for _, kind := range s {
			if kind == 't' {
				args = append(args, of("10"))
			} else {
				args = append(args, of(2))
			}
		}
		l = append(l, args)
	}
	return l
}

func TestArgumentsOfSeveralValues(t *testing.T) {
	for _, s := range names() {
		for _, l := range fitting(s) {
			for i := range l {
				for _, a := range odd() {
					args := singles(l...)
					args[i] = a
					answers(t, s, args, of("#VALUE!"))
				}
			}
		}
	}
}

// Each kind of value at each place.
func TestKinds(t *testing.T) {
	for _, s := range names() {
		for k, l := range fitting(s) {
			for i, kind := range takes()[s][k] {
				for _, v := range values() {
					args := singles(l...)
					args[i] = single(v)
					got := likewise(t, s, args)
					if v.Kind == api.Bad && fine(v) {
						same(t, got, v, s, i)
					}
					if !fine(v) || v == text("x") && kind != 't' {
						same(t, got, of("#VALUE!"), s, i)
					}
					if v == of(1.5) && kind == 'w' {
						same(t, got, of("#NUM!"), s, i)
					}
				}
			}
		}
	}
	rows(t, []row{
		{"ABS", with("-2.5"), 2.5}, {"ABS", with(true), 1}, {"ABS", with(false), 0}, {"ABS", with(nil), 0}, {"ABS", with("x"), "#VALUE!"}, {"ABS", with(""), "#VALUE!"}, {"ABS", with("true"), "#VALUE!"}, {"ABS", with("1e5"), "#VALUE!"}, {"ABS", with(" 1"), "#VALUE!"}, {"ABS", with("+1"), "#VALUE!"}, {"ABS", with("1.23456"), "#VALUE!"}, {"ABS", with("10000000.0001"), "#VALUE!"}, {"ABS", with("#N/A"), "#N/A"}, {"ABS", with(text("#N/A")), "#VALUE!"},
		{"ROUND", with("2.55", "1"), 2.6}, {"ROUND", with(2.55, true), 2.6}, {"ROUND", with(2.55, nil), 3}, {"ROUND", with(2.55, 0.5), "#NUM!"}, {"ROUND", with(2.55, "0.5"), "#NUM!"}, {"ROUND", with(2.55, "x"), "#VALUE!"}, {"ROUND", with(nil, nil), 0},
		{"MOD", with("7", true), 0}, {"MOD", with(7, nil), "#DIV/0!"}, {"MOD", with(7, false), "#DIV/0!"}, {"MOD", with(7, ""), "#VALUE!"}, {"GCD", with("12", "18"), 6}, {"GCD", with(true, nil), 1}, {"BASE", with("255", "16"), "FF"}, {"BASE", with(true, 2), "1"}, {"FACT", with(true), 1}, {"FACT", with(nil), 1}, {"FACT", with("5"), 120}, {"FACT", with("5.5"), "#NUM!"},
	})
	// An area of one value is that value, a range too.
	answers(t, "ABS", []api.Area{{Rows: 1, Cols: 1, L: []api.Value{of(-3)}, Many: true}}, of(3))
}

// Which error is told: the first from the left, and of one argument what is wrong first.
func TestFirstFromTheLeft(t *testing.T) {
	rows(t, []row{
		{"MOD", with("#REF!", "#N/A"), "#REF!"}, {"MOD", with("#N/A", "#REF!"), "#N/A"}, {"MOD", with("x", "#REF!"), "#VALUE!"}, {"MOD", with("#REF!", "x"), "#REF!"}, {"MOD", with("#REF!", 0), "#REF!"}, {"MOD", with("x", 0), "#VALUE!"}, {"MOD", with(1, "#NUM!"), "#NUM!"}, {"MOD", with(api.Area{}, "#REF!"), "#VALUE!"}, {"MOD", with("#REF!", api.Area{}), "#REF!"}, {"QUOTIENT", with("#CYCLE!", "#LINK!"), "#CYCLE!"}, {"POWER", with("#NAME?", "#DIV/0!"), "#NAME?"},
		{"ROUND", with("#REF!", 0.5), "#REF!"}, {"ROUND", with("x", 0.5), "#VALUE!"}, {"ROUND", with(1.5, 0.5), "#NUM!"}, {"ROUND", with(1.5, 9), "#NUM!"}, {"ROUND", with(1.5, "#REF!"), "#REF!"}, {"TRUNC", with("#REF!", "#N/A"), "#REF!"}, {"TRUNC", with("#REF!"), "#REF!"}, {"TRUNC", with("x"), "#VALUE!"}, {"TRUNC", with(1.5, 0.5), "#NUM!"},
		{"GCD", with(0.5, "#REF!"), "#NUM!"}, {"GCD", with(0.5, "x"), "#NUM!"}, {"GCD", with("#REF!", 0.5), "#REF!"}, {"GCD", with("x", 0.5), "#VALUE!"}, {"GCD", with(1, 0.5), "#NUM!"}, {"LCM", with(0.5, "#REF!"), "#NUM!"}, {"COMBIN", with(0.5, "#REF!"), "#NUM!"}, {"BITAND", with(0.5, "#REF!"), "#NUM!"}, {"BITOR", with("#REF!", 0.5), "#REF!"}, {"BITXOR", with(2, "#REF!"), "#REF!"},
		// What a number must be beside whole is looked at behind all arguments.
		{"GCD", with(-1, "#REF!"), "#REF!"}, {"GCD", with(-1, "x"), "#VALUE!"}, {"GCD", with(-1, 0.5), "#NUM!"}, {"BITAND", with(-1, "#REF!"), "#REF!"}, {"COMBIN", with(-1, "#REF!"), "#REF!"}, {"BASE", with(-1, "#REF!"), "#REF!"}, {"BASE", with(-1, "x"), "#VALUE!"}, {"BASE", with(0.5, "#REF!"), "#NUM!"}, {"BASE", with("#REF!", 0.5), "#REF!"}, {"BASE", with("#REF!", 99), "#REF!"}, {"BASE", with(5, 0.5), "#NUM!"},
		{"DECIMAL", with("!", "#REF!"), "#REF!"}, {"DECIMAL", with("!", "x"), "#VALUE!"}, {"DECIMAL", with("!", 0.5), "#NUM!"}, {"DECIMAL", with("#REF!", "#N/A"), "#REF!"}, {"DECIMAL", with("#REF!", "x"), "#REF!"}, {"DECIMAL", with("#REF!", 99), "#REF!"}, {"DECIMAL", with(api.Area{}, "#REF!"), "#VALUE!"}, {"DECIMAL", with("1", api.Area{}), "#VALUE!"}, {"DECIMAL", with("1", 99), "#NUM!"}, {"DECIMAL", with("", 10), "#NUM!"},
		{"SQRT", with("#N/A"), "#N/A"}, {"FACT", with("#N/A"), "#N/A"}, {"FACT", with(0.5), "#NUM!"}, {"FACT", with(-0.5), "#NUM!"}, {"FACT", with("x"), "#VALUE!"},
	})
}

// All calls, as the second way answers them.
func TestOfAny(t *testing.T) {
	r := rand.New(rand.NewSource(1))
	fine := map[string]int{}
	for range 4000 {
		for _, s := range names() {
			if v := likewise(t, s, anyArgs(r, s)); v.Kind != api.Bad {
				fine[s]++
			}
		}
	}
	for _, s := range names() {
		if fine[s] < 100 {
			t.Errorf("%s: only %d answers are no errors", s, fine[s])
		}
	}
}

// What is answered is a value.
func TestAnswersAreGood(t *testing.T) {
	r := rand.New(rand.NewSource(2))
	for range 1000 {
		for _, s := range names() {
			args := anyArgs(r, s)
			if v, _ := maths.Call(s, args); !fine(v) {
				t.Fatal(s, args, fmt.Sprint(v))
			}
		}
	}
}
