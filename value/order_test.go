package value_test

import (
	"math"
	"strings"
	"testing"

	"octavo/api"
	"octavo/value"
)

// P6.4

// stand: a held against b, and the other way round.
func stand(t *testing.T, a, b api.Value, want int) {
	t.Helper()
	same(t, value.Cmp(a, b), want, "Cmp", a, b)
	same(t, value.Cmp(b, a), -want, "Cmp", b, a)
}

func TestCmpWithinKinds(t *testing.T) {
	for _, r := range []struct {
		a, b api.Value
		want int
	}{
		{number(0), number(0), 0}, {number(1), number(2), -1}, {number(-1), number(1), -1}, {number(-most), number(most), -1}, {number(90000), number(100000), -1}, {number(math.MinInt), number(math.MaxInt), -1}, {number(math.MinInt), number(1), -1}, {number(math.MaxInt), number(-1), 1},
		{text(""), text(""), 0}, {text(""), text("a"), -1}, {text("a"), text("b"), -1}, {text("a"), text("ab"), -1}, {text("b"), text("ab"), 1}, {text("9"), text("10"), 1}, {text("10"), text("1a"), -1},
		// Letters of any size are alike; what stands between the sizes is held against the capital ones.
		{text("a"), text("A"), 0}, {text("aBc"), text("AbC"), 0}, {text("a"), text("B"), -1}, {text("A"), text("b"), -1}, {text("Z"), text("a"), 1}, {text("a"), text("_"), -1}, {text("A"), text("_"), -1}, {text("z"), text("["), -1}, {text("["), text("a"), 1}, {text("a"), text("@"), 1}, {text("`"), text("a"), 1}, {text("{"), text("z"), 1},
		// Beyond ASCII by bytes, and no size is like another one.
		{text("é"), text("É"), 1}, {text("z"), text("é"), -1}, {text("é"), text("\xff"), -1}, {text("\xff"), text("\xff"), 0}, {text("\xfe"), text("\xff"), -1}, {text("a\xff"), text("A\xff"), 0}, {text("\xff"), text("\ufffd"), 1}, {text("ſ"), text("s"), 1}, {text("\u212a"), text("k"), 1}, {text("€"), text("😀"), -1}, {text("\ue000"), text("😀"), -1},
		{text(full(300)), text(strings.ToUpper(full(300))), 0}, {text(full(300)), text(full(301)), -1},
		{truth(0), truth(1), -1}, {truth(0), truth(0), 0}, {truth(1), truth(1), 0}, {truth(0), truth(-1), -1}, {truth(2), truth(1), 0}, {truth(-1), truth(1), 0},
		{bad(1), bad(1), 0}, {bad(1), bad(8), -1}, {bad(0), bad(1), -1}, {bad(-1), bad(0), -1}, {bad(8), bad(9), -1}, {bad(math.MinInt), bad(math.MaxInt), -1},
		{other(5, 1), other(5, 1), 0}, {other(5, 1), other(6, 1), 0}, {other(6, 1), other(5, 2), -1}, {other(-1, 3), other(5, 3), 0}, {other(-1, 2), bad(3), -1}, {other(9, 3), bad(3), 0}, {other(9, 4), bad(3), 1}, {other(math.MinInt, math.MaxInt), other(math.MaxInt, math.MinInt), 1},
		// What a kind does not name is not looked at.
		{api.Value{Kind: api.Num, N: 5, S: "x"}, number(5), 0}, {api.Value{Kind: api.Str, N: 5, S: "x"}, text("x"), 0}, {api.Value{Kind: api.Bool, N: 1, S: "x"}, truth(1), 0}, {api.Value{Kind: api.Bad, N: 5, S: "x"}, bad(5), 0}, {api.Value{N: 5, S: "x"}, blank, 0}, {api.Value{Kind: 7, N: 5, S: "x"}, api.Value{Kind: 7, N: 5, S: "a"}, 0},
	} {
		stand(t, r.a, r.b, r.want)
	}
}

// Each kind is above all that stand ahead of it, whatever is in them.
func TestCmpOfKinds(t *testing.T) {
	l := [][]api.Value{
		{number(-most), number(0), number(most), number(math.MinInt), number(math.MaxInt)},
		{text(""), text("0"), text("zz"), text("TRUE"), text("#N/A"), text("\xff"), text("\x00")},
		{truth(0), truth(1), truth(-1), truth(math.MinInt)},
		{bad(1), bad(8), bad(0), bad(9), bad(-1), bad(math.MinInt), other(5, 0), other(5, math.MinInt), other(-1, 0), other(-1, -1), other(math.MinInt, 0), other(math.MaxInt, math.MinInt)},
	}
	for i, low := range l {
		for _, high := range l[i+1:] {
			for _, a := range low {
				for _, b := range high {
					stand(t, a, b, -1)
				}
			}
		}
	}
}

func TestCmpOfBlanks(t *testing.T) {
	for _, b := range []api.Value{blank, {N: 7, S: "x"}} {
		stand(t, b, blank, 0)
		for _, v := range []api.Value{number(0), text(""), truth(0)} {
			stand(t, b, v, 0)
		}
		for _, v := range []api.Value{number(1), number(most), text("a"), text("\x00"), text("0"), text("FALSE"), truth(1), truth(2), truth(-1), bad(0), bad(1), bad(8), bad(9), bad(-1), bad(math.MinInt), other(5, 0), other(5, -1), other(-1, 0), other(math.MinInt, math.MinInt)} {
			stand(t, b, v, -1)
		}
		for _, v := range []api.Value{number(-1), number(-most), number(math.MinInt)} {
			stand(t, b, v, 1)
		}
	}
}

func TestCmpOfAllPairs(t *testing.T) {
	l := values()
	for _, a := range l {
		for _, b := range l {
			if got, want := value.Cmp(a, b), stands(a, b); got != want {
				t.Fatalf("Cmp %#v %#v: %d, want %d", a, b, got, want)
			}
		}
	}
	left, right := some(20000, 5), some(20000, 6)
	for i := range left {
		a, b := text(left[i]), text(right[i])
		same(t, value.Cmp(a, b), stands(a, b), "Cmp", a, b)
	}
}

// P6.5

func TestTypedOfTextIsTheValue(t *testing.T) {
	seen := map[int]int{}
	l := goods()
	for n := -100000; n <= 100000; n += 7 {
		l = append(l, number(n), number(n*1000), number(most-n*n))
	}
	for _, v := range l {
		if v.Kind == api.Num || v.Kind == api.Bool || v.Kind == api.Bad {
			seen[v.Kind]++
			same(t, value.Typed(value.Text(v)), v, "Typed of Text of", v)
		}
	}
	same(t, len(seen), 3, "kinds")
	same(t, seen[api.Bad], 8, "errors")
	same(t, seen[api.Bool], 2, "truths")
}

// A Str that its own text types comes back, and so does each with a ' ahead of it.
func TestTypedOfTextsComesBack(t *testing.T) {
	own := 0
	for _, s := range append(texts(), some(20000, 7)...) {
		v := value.Typed(s)
		if v == text(s) {
			own++
			same(t, value.Typed(value.Text(v)), v, "Typed of Text of", v)
		}
		same(t, value.Typed("'"+value.Text(text(s))), text(s), "Typed with a ' of", s)
		if len(s) <= api.MaxText {
			same(t, value.Good(v), true, "Good of Typed of", s)
		}
	}
	if own < 1000 {
		t.Fatalf("only %d texts typed themselves", own)
	}
}

// order: values of which each stands with those that are like it, and between others.
func order() []api.Value {
	l := []api.Value{number(math.MinInt), number(-most), number(-1), number(0), number(1), number(most), text(""), text("a"), text("A"), text("B"), text("b"), text("_"), text("é"), text("\xff"), text("aB"), text("Ab"), truth(0), truth(1), truth(2), bad(0), bad(1), bad(8), bad(9), other(5, 1), other(-1, 8), other(7, -1)}
	for _, s := range some(40, 8) {
		l = append(l, text(s))
	}
	return l
}

// Of all that are not Blank Cmp is an order. A Blank is like 0, the empty text and FALSE, which are not alike, so that of it only the two sides are held against each other (TestCmpOfBlanks).
func TestCmpIsAnOrder(t *testing.T) {
	l := order()
	for _, a := range l {
		same(t, value.Cmp(a, a), 0, "Cmp", a, a)
		for _, b := range l {
			x := value.Cmp(a, b)
			if x < -1 || x > 1 || x != -value.Cmp(b, a) {
				t.Fatalf("Cmp %#v %#v: %d, other way %d", a, b, x, value.Cmp(b, a))
			}
			for _, c := range l {
				y, z := value.Cmp(b, c), value.Cmp(a, c)
				if x <= 0 && y <= 0 && (z > 0 || z == 0 && (x < 0 || y < 0)) {
					t.Fatalf("%#v, %#v, %#v: %d %d, but %d", a, b, c, x, y, z)
				}
			}
		}
	}
}
