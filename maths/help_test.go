package maths_test

import (
	"math"
	"math/rand"
	"slices"
	"strings"
	"testing"

	"octavo/api"
	"octavo/maths"
)

const (
	most  = api.MaxNum
	scale = api.Scale
)

var blank = api.Value{}

func number(n int) api.Value      { return api.Value{Kind: api.Num, N: n} }
func whole(n int) api.Value       { return number(n * scale) }
func text(s string) api.Value     { return api.Value{Kind: api.Str, S: s} }
func bad(n int) api.Value         { return api.Value{Kind: api.Bad, N: n} }
func single(v api.Value) api.Area { return area(1, 1, v) }

func truth(b bool) api.Value {
	if b {
		return api.Value{Kind: api.Bool, N: 1}
	}
	return api.Value{Kind: api.Bool}
}

func area(rows, cols int, l ...api.Value) api.Area {
	return api.Area{Rows: rows, Cols: cols, L: l}
}

// singles: arguments of one value each.
func singles(l ...api.Value) []api.Area {
	var out []api.Area
	for _, v := range l {
		out = append(out, single(v))
	}
	return out
}

// of: the value that x stands for: an int is a whole number, a float one of four places, a text an error, if it is what one shows, else itself; nil is a Blank.
func of(x any) api.Value {
	switch k := x.(type) {
	case int:
		return whole(k)
	case float64:
		return number(int(math.Round(k * scale)))
	case bool:
		return truth(k)
	case string:
		if n := slices.Index(shown(), k); n >= 0 {
			return bad(n + 1)
		}
		return text(k)
	case nil:
		return blank
	}
	return x.(api.Value)
}

// shown: what the eight errors show, from 1 on.
func shown() []string {
	return []string{"#DIV/0!", "#VALUE!", "#REF!", "#NAME?", "#NUM!", "#N/A", "#CYCLE!", "#LINK!"}
}

// row: a call and what it is to answer.
type row struct {
	name string
	args []any
	want any
}

// with: arguments.
func with(l ...any) []any { return l }

// areas: arguments, of which those that are areas stay.
func areas(l []any) []api.Area {
	var out []api.Area
	for _, x := range l {
		if a, ok := x.(api.Area); ok {
			out = append(out, a)
		} else {
			out = append(out, single(of(x)))
		}
	}
	return out
}

// answers: does a call answer so, and does the second way?
func answers(t *testing.T, name string, args []api.Area, want api.Value) {
	t.Helper()
	got, ok := maths.Call(name, args)
	if got != want || !ok {
		t.Fatalf("%s%v: %v %v, want %v", name, args, got, ok, want)
	}
	if second := told(name, args); second != want {
		t.Fatalf("%s%v by the second way: %v, want %v", name, args, second, want)
	}
}

// rows: do calls answer so?
func rows(t *testing.T, l []row) {
	t.Helper()
	for _, r := range l {
		answers(t, r.name, areas(r.args), of(r.want))
	}
}

// likewise: does a call answer as the second way does?
func likewise(t *testing.T, name string, args []api.Area) api.Value {
	t.Helper()
	want := told(name, args)
	got, ok := maths.Call(name, args)
	if got != want || !ok {
		t.Fatalf("%s%v: %v %v, want %v", name, args, got, ok, want)
	}
	return got
}

// same: has a call answered as it is to?
func same[T comparable](t *testing.T, got, want T, what string, args ...any) {
	t.Helper()
	if got != want {
		t.Fatalf("%s%v: %v, want %v", what, args, got, want)
	}
}

// What is handed in.

// edges: numbers at the ends, at 0, at halves, and those at which functions turn.
func edges() []int {
	l := []int{0}
	for _, n := range []int{1, 2, 49, 50, 51, 4999, 5000, 5001, 9999, 10000, 10001, 14999, 15000, 15001, 19999, 20000, 20001, 24999, 25000, 25001, 29999, 30000, 30001, 35000, 45000, 70000, 100000, 110000, 123456, 160000, 350000, 360000, 370000, 640000, 650000, 999999, 1e9 - 1, 1e9, 1e9 + 1, most/2 - 1, most / 2, most/2 + 1, most - 20000, most - 15000, most - 10001, most - 10000, most - 9999, most - 5000, most - 1, most} {
		l = append(l, n, -n)
	}
	return l
}

// wholes: whole numbers, at the ends and about.
func wholes() []int {
	l := []int{0}
	for _, n := range []int{1, 2, 3, 4, 5, 6, 7, 8, 9, 10, 11, 12, 16, 18, 24, 25, 26, 35, 36, 37, 63, 64, 65, 100, 255, 256, 4096, 65535, 65536, 1 << 20, 4999999, 5000000, 5000001, 8388607, 8388608, 9999990, 9999991, 9999998, 9999999, 10000000} {
		l = append(l, n, -n)
	}
	return l
}

// values: of all kinds, good ones and others.
func values() []api.Value {
	l := []api.Value{
		blank, truth(true), truth(false), {Kind: api.Bool, N: 2}, {Kind: api.Bool, N: -1}, {Kind: api.Bool, N: 1, S: "x"}, {N: 1}, {S: "x"}, {Kind: api.Num, N: 5, S: "x"}, {Kind: api.Str, N: 1, S: "x"}, {Kind: api.Bad}, {Kind: api.Bad, N: 9}, {Kind: api.Bad, N: -1}, {Kind: api.Bad, N: 1, S: "x"}, {Kind: 5}, {Kind: -1}, {Kind: 5, N: 1, S: "1"}, {Kind: math.MaxInt, N: math.MinInt},
		number(most + 1), number(-most - 1), number(math.MaxInt), number(math.MinInt), text(strings.Repeat("1", 255)), text(strings.Repeat("1", 256)), text(strings.Repeat("\xff", 255)),
	}
	for n := range 8 {
		l = append(l, bad(n+1))
	}
	for _, s := range strings.Split("|0|1|-1|2|10|16|36|1.5|-2.5|0.0001|10000000|-10000000|10000000.0001|999999999999|1.23456|1.|.5|+1|1e5| 1|1 |x|ff|FF|Zz|true|TRUE|#N/A|'1|é|\xff|٣|1_0|0x1f|zzzzzzzzzz|zzzzzzzzzzz|0000000001|00000000001|-0|--1", "|") {
		l = append(l, text(s))
	}
	for _, n := range []int{0, 1, 5000, 10000, 15000, 20000, 25000, 30000, 100000, 160000, 360000, 370000, 1e9, most, most - 1} {
		l = append(l, number(n), number(-n))
	}
	return l
}

// odd: areas that are no arguments, and those of several values.
func odd() []api.Area {
	one := number(10000)
	return []api.Area{
		{}, area(1, 1), area(0, 0), area(0, 1), area(1, 0), area(-1, -1, one), area(-1, 1, one), area(1, -1, one), area(0, 1, one), area(1, 0, one), area(0, 0, one), area(1, 1, one, one), area(1, 2, one), area(2, 1, one), area(2, 2, one), area(2, 2, one, one, one, one, one),
		area(1, 2, one, one), area(2, 1, one, one), area(2, 2, one, one, one, one), {Rows: 1, Cols: 2, L: []api.Value{one, one}, Many: true}, area(1, 2, bad(1), bad(3)), area(1, 2, one, api.Value{Kind: 7}), area(1, 1, api.Value{Kind: 7}),
		area(math.MaxInt, math.MaxInt), area(math.MinInt, math.MinInt), area(1<<32, 1<<32), area(1<<32, 1<<32, one), area(1<<32+1, 1<<32-1, one), area(math.MaxInt, math.MaxInt, one), area(math.MinInt, 1), area(math.MaxInt, 1, one), area(1, math.MaxInt, one), area(-1, -1), area(math.MinInt, -1, one),
	}
}

// anyArea: an argument, most of the time one that is good.
func anyArea(r *rand.Rand) api.Area {
	switch r.Intn(12) {
	case 0:
		l := odd()
		return l[r.Intn(len(l))]
	case 1, 2:
		l := values()
		return single(l[r.Intn(len(l))])
	case 3:
		l := edges()
		return single(number(l[r.Intn(len(l))]))
	case 4, 5:
		l := wholes()
		return single(whole(l[r.Intn(len(l))]))
	case 6, 7:
		return single(whole(r.Intn(40)))
	}
	return single(number(anyNumber(r)))
}

// anyNumber: a number of any length, often a whole one.
func anyNumber(r *rand.Rand) int {
	n := r.Intn(most>>r.Intn(37) + 1)
	if r.Intn(3) > 0 {
		n = n / scale * scale
	}
	if r.Intn(3) == 0 {
		n = -n
	}
	return n
}

// anyDigits: a text of some digits.
func anyDigits(r *rand.Rand) string {
	const digits = "0123456789abcdefghijklmnopqrstuvwxyzABCDEFGHIJKLMNOPQRSTUVWXYZ"
	s, n := "", 2+r.Intn(len(digits)-1)
	for range r.Intn(12) {
		s += string(digits[r.Intn(n)])
	}
	return s
}

// anyArgs: as many as name takes, most of the time.
func anyArgs(r *rand.Rand, name string) []api.Area {
	l := takes()[name]
	kinds := l[r.Intn(len(l))]
	if r.Intn(10) == 0 {
		kinds = "nnnnn"[:r.Intn(5)]
	}
	var out []api.Area
	for _, kind := range kinds {
		if kind == 't' && r.Intn(2) == 0 {
			out = append(out, single(text(anyDigits(r))))
		} else {
			out = append(out, anyArea(r))
		}
	}
	return out
}
