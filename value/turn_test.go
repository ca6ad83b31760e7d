package value_test

import (
	"math"
	"testing"

	"octavo/api"
	"octavo/value"
)

// P6.3

// turned: a value, what it is turned into, and which error.
type turned[T comparable] struct {
	v    api.Value
	want T
	e    int
}

func allTurned[T comparable](t *testing.T, what string, call func(api.Value) (T, int), l []turned[T]) {
	t.Helper()
	for _, r := range l {
		got, e := call(r.v)
		same(t, got, r.want, what, r.v)
		same(t, e, r.e, what+"'s error", r.v)
	}
}

func TestToNum(t *testing.T) {
	allTurned(t, "ToNum", value.ToNum, []turned[int]{
		{number(0), 0, 0}, {number(15000), 15000, 0}, {number(-1), -1, 0}, {number(most), most, 0}, {number(-most), -most, 0}, {number(most + 1), most + 1, 0}, {number(math.MinInt), math.MinInt, 0},
		{truth(0), 0, 0}, {truth(1), 10000, 0}, {truth(2), 10000, 0}, {truth(-1), 10000, 0}, {truth(math.MinInt), 10000, 0},
		{blank, 0, 0},
		{text("1.5"), 15000, 0}, {text("-1"), -10000, 0}, {text("0"), 0, 0}, {text("10000000"), most, 0}, {text("-10000000"), -most, 0}, {text("007"), 70000, 0},
		{text(""), 0, api.BadVal}, {text("x"), 0, api.BadVal}, {text("TRUE"), 0, api.BadVal}, {text("'1"), 0, api.BadVal}, {text(" 1"), 0, api.BadVal}, {text("10000000.0001"), 0, api.BadVal}, {text("1.23456"), 0, api.BadVal}, {text("1."), 0, api.BadVal}, {text("#N/A"), 0, api.BadVal}, {text("#REF!"), 0, api.BadVal}, {text("1\xff"), 0, api.BadVal}, {text(full(300)), 0, api.BadVal},
		{bad(1), 0, 1}, {bad(2), 0, 2}, {bad(3), 0, 3}, {bad(4), 0, 4}, {bad(5), 0, 5}, {bad(6), 0, 6}, {bad(7), 0, 7}, {bad(8), 0, 8}, {bad(9), 0, 9}, {bad(0), 0, 0}, {bad(-1), 0, -1},
		{other(5, 1), 0, api.BadVal}, {other(-1, 6), 0, api.BadVal}, {other(math.MaxInt, 0), 0, api.BadVal}, {other(math.MinInt, 0), 0, api.BadVal}, {api.Value{Kind: 5, S: "1"}, 0, api.BadVal},
		// What a kind does not name is not looked at.
		{api.Value{N: 7, S: "1"}, 0, 0}, {api.Value{Kind: api.Num, N: 7, S: "x"}, 7, 0}, {api.Value{Kind: api.Str, N: 7, S: "1"}, 10000, 0}, {api.Value{Kind: api.Str, N: 7, S: "x"}, 0, api.BadVal}, {api.Value{Kind: api.Bool, N: 1, S: "x"}, 10000, 0}, {api.Value{Kind: api.Bad, N: 3, S: "1"}, 0, 3},
	})
}

func TestToText(t *testing.T) {
	allTurned(t, "ToText", value.ToText, []turned[string]{
		{blank, "", 0}, {number(15000), "1.5", 0}, {number(-most), "-10000000", 0}, {number(most + 1), "10000000.0001", 0}, {truth(0), "FALSE", 0}, {truth(1), "TRUE", 0}, {truth(7), "TRUE", 0},
		{text(""), "", 0}, {text("x"), "x", 0}, {text("'x"), "'x", 0}, {text("#N/A"), "#N/A", 0}, {text("\xff"), "\xff", 0}, {text(full(api.MaxText)), full(api.MaxText), 0}, {text(full(api.MaxText + 1)), full(api.MaxText + 1), 0},
		{bad(1), "", 1}, {bad(2), "", 2}, {bad(3), "", 3}, {bad(4), "", 4}, {bad(5), "", 5}, {bad(6), "", 6}, {bad(7), "", 7}, {bad(8), "", 8}, {bad(9), "", 9}, {bad(0), "", 0}, {bad(-1), "", -1},
		{other(5, 1), "", 0}, {other(-1, 6), "", 0}, {api.Value{Kind: 5, N: 1, S: "x"}, "", 0},
		{api.Value{N: 7, S: "x"}, "", 0}, {api.Value{Kind: api.Str, N: 7, S: "x"}, "x", 0}, {api.Value{Kind: api.Bad, N: 3, S: "x"}, "", 3},
	})
}

func TestToBool(t *testing.T) {
	allTurned(t, "ToBool", value.ToBool, []turned[bool]{
		{truth(0), false, 0}, {truth(1), true, 0}, {truth(2), true, 0}, {truth(-1), true, 0},
		{number(0), false, 0}, {number(1), true, 0}, {number(-1), true, 0}, {number(10000), true, 0}, {number(most), true, 0}, {number(-most), true, 0}, {number(most + 1), true, 0}, {number(math.MinInt), true, 0},
		{blank, false, 0},
		{text("TRUE"), true, 0}, {text("true"), true, 0}, {text("tRuE"), true, 0}, {text("FALSE"), false, 0}, {text("false"), false, 0}, {text("False"), false, 0},
		{text(""), false, api.BadVal}, {text("1"), false, api.BadVal}, {text("0"), false, api.BadVal}, {text("x"), false, api.BadVal}, {text("'TRUE"), false, api.BadVal}, {text("TRUE "), false, api.BadVal}, {text(" FALSE"), false, api.BadVal}, {text("FALſE"), false, api.BadVal}, {text("falſe"), false, api.BadVal}, {text("TRU"), false, api.BadVal}, {text("#N/A"), false, api.BadVal},
		{bad(1), false, 1}, {bad(2), false, 2}, {bad(3), false, 3}, {bad(4), false, 4}, {bad(5), false, 5}, {bad(6), false, 6}, {bad(7), false, 7}, {bad(8), false, 8}, {bad(9), false, 9}, {bad(0), false, 0}, {bad(-1), false, -1},
		{other(5, 1), false, api.BadVal}, {other(-1, 6), false, api.BadVal}, {other(math.MaxInt, 1), false, api.BadVal}, {other(math.MinInt, 0), false, api.BadVal}, {api.Value{Kind: 5, S: "TRUE"}, false, api.BadVal},
		{api.Value{N: 1, S: "TRUE"}, false, 0}, {api.Value{Kind: api.Num, S: "TRUE"}, false, 0}, {api.Value{Kind: api.Str, N: 1, S: "FALSE"}, false, 0}, {api.Value{Kind: api.Str, N: 1, S: "x"}, false, api.BadVal}, {api.Value{Kind: api.Bool, N: 0, S: "TRUE"}, false, 0},
	})
}

func TestTurningOfAllValues(t *testing.T) {
	l := values()
	for _, s := range some(20000, 4) {
		l = append(l, text(s))
	}
	for _, v := range l {
		n, e := value.ToNum(v)
		want, fault := toNum(v)
		same(t, n, want, "ToNum", v)
		same(t, e, fault, "ToNum's error", v)
		s, e := value.ToText(v)
		if v.Kind == api.Bad {
			same(t, s, "", "ToText", v)
			same(t, e, v.N, "ToText's error", v)
		} else {
			same(t, s, shows(v), "ToText", v)
			same(t, e, 0, "ToText's error", v)
		}
		b, e := value.ToBool(v)
		is, fault := toBool(v)
		same(t, b, is, "ToBool", v)
		same(t, e, fault, "ToBool's error", v)
	}
}
