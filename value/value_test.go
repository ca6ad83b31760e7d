package value_test

import (
	"math"
	"testing"

	"octavo/api"
	"octavo/num"
	"octavo/value"
)

// P6.1

func TestGood(t *testing.T) {
	for _, v := range []api.Value{
		blank,
		number(0), number(1), number(-1), number(15000), number(most), number(-most), number(most - 1), number(1 - most),
		text(""), text("x"), text("1"), text("TRUE"), text("'"), text("\xff"), text("é"), text(full(api.MaxText - 1)), text(full(api.MaxText)),
		truth(0), truth(1),
		bad(1), bad(2), bad(3), bad(4), bad(5), bad(6), bad(7), bad(8),
	} {
		same(t, value.Good(v), true, "Good", v)
	}
}

func TestGoodRefuses(t *testing.T) {
	for _, v := range []api.Value{
		{N: 1}, {N: -1}, {S: "x"}, {N: math.MinInt}, {N: 1, S: "x"},
		number(most + 1), number(-most - 1), number(math.MaxInt), number(math.MinInt), {Kind: api.Num, N: 1, S: "1"}, {Kind: api.Num, S: " "},
		text(full(api.MaxText + 1)), text(full(10 * api.MaxText)), {Kind: api.Str, N: 1}, {Kind: api.Str, N: 1, S: "x"}, {Kind: api.Str, N: -1, S: "x"},
		truth(2), truth(-1), truth(10000), truth(math.MinInt), {Kind: api.Bool, N: 1, S: "TRUE"}, {Kind: api.Bool, S: "x"},
		bad(0), bad(9), bad(-1), bad(math.MaxInt), {Kind: api.Bad, N: 6, S: "#N/A"}, {Kind: api.Bad, N: 1, S: "x"},
		{Kind: 5}, {Kind: -1}, {Kind: 5, N: 1}, {Kind: 6, S: "x"}, {Kind: math.MaxInt}, {Kind: math.MinInt, N: 1},
	} {
		same(t, value.Good(v), false, "Good", v)
	}
}

func TestText(t *testing.T) {
	for _, r := range []struct {
		v    api.Value
		want string
	}{
		{blank, ""},
		{number(0), "0"}, {number(15000), "1.5"}, {number(-12500), "-1.25"}, {number(1), "0.0001"}, {number(-1), "-0.0001"}, {number(most), "10000000"}, {number(-most), "-10000000"}, {number(most + 1), "10000000.0001"}, {number(-most - 1), "-10000000.0001"}, {number(math.MaxInt), "922337203685477.5807"}, {number(math.MinInt), "-922337203685477.5808"},
		{text(""), ""}, {text("x"), "x"}, {text("'x"), "'x"}, {text("\xffé"), "\xffé"}, {text(full(api.MaxText)), full(api.MaxText)}, {text(full(api.MaxText + 1)), full(api.MaxText + 1)},
		{truth(1), "TRUE"}, {truth(0), "FALSE"}, {truth(2), "TRUE"}, {truth(-1), "TRUE"},
		{bad(1), "#DIV/0!"}, {bad(2), "#VALUE!"}, {bad(3), "#REF!"}, {bad(4), "#NAME?"}, {bad(5), "#NUM!"}, {bad(6), "#N/A"}, {bad(7), "#CYCLE!"}, {bad(8), "#LINK!"},
		{bad(0), ""}, {bad(9), ""}, {bad(-1), ""}, {bad(math.MaxInt), ""}, {bad(math.MinInt), ""},
		{other(5, 1), ""}, {other(-1, 1), ""}, {other(math.MaxInt, 6), ""}, {other(math.MinInt, 6), ""}, {api.Value{Kind: 5, N: 1, S: "x"}, ""},
		// What a kind does not name is not looked at.
		{api.Value{N: 7, S: "x"}, ""}, {api.Value{Kind: api.Num, N: 20000, S: "x"}, "2"}, {api.Value{Kind: api.Str, N: 7, S: "x"}, "x"}, {api.Value{Kind: api.Bool, N: 1, S: "x"}, "TRUE"}, {api.Value{Kind: api.Bad, N: 3, S: "x"}, "#REF!"}, {api.Value{Kind: api.Bad, N: 9, S: "x"}, ""},
	} {
		same(t, value.Text(r.v), r.want, "Text", r.v)
	}
}

func TestGoodAndTextOfAllValues(t *testing.T) {
	for _, v := range values() {
		same(t, value.Good(v), isGood(v), "Good", v)
		same(t, value.Text(v), shows(v), "Text", v)
	}
}

// P6.2: what makes values.

func TestBad(t *testing.T) {
	for n := 1; n <= 8; n++ {
		same(t, value.Bad(n), bad(n), "Bad", n)
	}
	for _, n := range []int{0, 9, -1, -8, 10, most, math.MaxInt, math.MinInt} {
		same(t, value.Bad(n), bad(api.BadVal), "Bad", n)
	}
}

func TestOf(t *testing.T) {
	for _, n := range ints() {
		want := bad(api.BadNum)
		if n >= -most && n <= most {
			want = number(n)
		}
		same(t, value.Of(n, true), want, "Of", n, true)
		same(t, value.Of(n, false), bad(api.BadNum), "Of", n, false)
	}
	same(t, value.Of(num.Div(10000, 40000)), number(2500), "Of Div")
	same(t, value.Of(num.Div(10000, 0)), bad(api.BadNum), "Of Div")
}

func TestStr(t *testing.T) {
	for _, s := range texts() {
		want := text(s)
		if len(s) > 255 {
			want = bad(api.BadVal)
		}
		same(t, value.Str(s), want, "Str", s)
	}
	same(t, value.Str(full(api.MaxText)).Kind, api.Str, "Str of MaxText bytes")
	same(t, value.Str(full(api.MaxText+1)), bad(api.BadVal), "Str of one more")
	same(t, value.Str(full(1<<16)), bad(api.BadVal), "Str of many more")
	// Bytes count, not characters.
	same(t, value.Str(full(253)+"é").Kind, api.Str, "Str of 254 characters in 255 bytes")
	same(t, value.Str(full(254)+"é"), bad(api.BadVal), "Str of 255 characters in 256 bytes")
	// What is typed as something other is a text here.
	for _, s := range []string{"", "1", "TRUE", "#N/A", "'x"} {
		same(t, value.Str(s), text(s), "Str", s)
	}
}
