package formula_test

import (
	"math"
	"strings"
	"testing"

	"octavo/api"
	"octavo/formula"
)

// P10.2: Good. (Of each tree that is not good Print is nothing: bad asks for both.)

func TestGoodOfSingles(t *testing.T) {
	for _, x := range leaves() {
		for _, n := range []api.Node{x.node, neg(x.node), pct(x.node), bin("&", x.node, x.node), call("F", x.node, x.node)} {
			same(t, formula.Good(n), true, "Good", shown(n))
		}
		n := x.node
		n.Args = []api.Node{}
		same(t, formula.Good(n), true, "Good with an empty list", shown(n))
	}
}

// TestGoodOfWhatIsParsed: and not of what stands beside an error.
func TestGoodOfWhatIsParsed(t *testing.T) {
	good := 0
	for _, s := range mixed(200000, 4) {
		n, e := formula.Parse(s)
		if formula.Good(n) != (e == api.OK) {
			t.Fatalf("Good of what %q is parsed to: %v, %s", s, e, shown(n))
		}
		if e == api.OK {
			good++
		}
	}
	if good < 5000 {
		t.Fatalf("only %d are formulas", good)
	}
}

// TestGoodRefusesKinds: those that there are not, whatever they have.
func TestGoodRefusesKinds(t *testing.T) {
	for _, kind := range []int{math.MinInt, -7, -1, 0, 8, 9, 100, 257, 1<<32 + 1, math.MaxInt} {
		bad(t, api.Node{Kind: kind})
		for _, x := range append(leaves(), leaf{"", neg(num(1))}, leaf{"", bin("+", num(1), num(2))}, leaf{"", call("F", num(1))}) {
			n := x.node
			n.Kind = kind
			bad(t, n)
		}
	}
	for kind := range 8 {
		if kind > 0 && kind != 7 {
			bad(t, api.Node{Kind: kind})
		}
	}
	bad(t, api.Node{Kind: 7})
	bad(t, api.Node{})
}

// TestGoodRefusesWhatAKindDoesNotName: each field of each kind, even if it would be good in another one.
func TestGoodRefusesWhatAKindDoesNotName(t *testing.T) {
	nodes := []api.Node{num(1), str("a"), truth(1), fault(1), cell(1, 1), ref(of("b", "s", at(1, 1))), area(at(1, 1), at(2, 2)), area(of("b", "s", at(1, 1)), at(2, 2)), name("tax"), nameOf("b", "tax"), neg(num(1)), pct(num(1)), bin("+", num(1), num(2)), bin("=", num(1), num(2)), call("F"), call("F", num(1))}
	for _, n := range nodes {
		same(t, formula.Good(n), true, "Good", shown(n))
		for _, s := range []string{"x", "-", "%", "+", "F", " ", "\x00", "tax"} {
			if n.Kind <= 3 {
				x := n
				x.S = s
				bad(t, x)
			}
		}
		for _, v := range []api.Value{{Kind: 1}, {Kind: 1, N: 5}, {Kind: 2}, {Kind: 3}, {Kind: 4, N: 1}, {N: 1}, {S: "x"}, {Kind: -1}} {
			if n.Kind != 1 {
				x := n
				x.Value = v
				bad(t, x)
			}
		}
		for _, r := range []api.Ref{at(1, 1), {Row: 1}, {Col: 1}, {Sheet: "s"}, {FixRow: true}, {FixCol: true}, {Row: -1}, of("b", "s", at(1, 1))} {
			if n.Kind != 2 && n.Kind != 3 {
				x := n
				x.Ref = r
				bad(t, x)
				x.Ref.Book = "b"
				bad(t, x)
			}
			if n.Kind != 3 {
				x := n
				x.To = r
				bad(t, x)
			}
		}
		x := n
		if n.Kind != 4 && n.Kind != 2 && n.Kind != 3 {
			x.Ref.Book = "b"
			bad(t, x)
		}
		x = n
		x.To.Book = "b"
		bad(t, x)
		if n.Kind <= 4 {
			for _, l := range [][]api.Node{{num(1)}, {num(1), num(2)}, {{}}, {name("x")}} {
				x = n
				x.Args = l
				bad(t, x)
			}
		}
	}
}

func TestGoodOfValues(t *testing.T) {
	for _, v := range []api.Value{{Kind: 1}, {Kind: 1, N: 1}, {Kind: 1, N: 12345}, {Kind: 1, N: api.MaxNum - 1}, {Kind: 1, N: api.MaxNum}, {Kind: 2}, {Kind: 2, S: "\xff"}, {Kind: 2, S: strings.Repeat("x", 253)}, {Kind: 2, S: strings.Repeat("x", 254)}, {Kind: 2, S: strings.Repeat("x", 255)}, {Kind: 2, S: strings.Repeat(`"`, 255)}, {Kind: 3}, {Kind: 3, N: 1}} {
		same(t, formula.Good(val(v)), true, "Good", v)
	}
	for n := 1; n <= 8; n++ {
		same(t, formula.Good(fault(n)), true, "Good of fault", n)
	}
	for _, v := range []api.Value{
		// Blanks, and kinds that there are not.
		{}, {N: 1}, {S: "a"}, {Kind: -1}, {Kind: 5}, {Kind: 5, N: 1}, {Kind: math.MaxInt}, {Kind: math.MinInt},
		// Numbers below 0, and beyond the end.
		{Kind: 1, N: -1}, {Kind: 1, N: -10000}, {Kind: 1, N: -api.MaxNum}, {Kind: 1, N: -api.MaxNum - 1}, {Kind: 1, N: api.MaxNum + 1}, {Kind: 1, N: math.MaxInt}, {Kind: 1, N: math.MinInt}, {Kind: 1, N: 1, S: "1"}, {Kind: 1, S: " "},
		// Texts that are too long, or have a number.
		{Kind: 2, S: strings.Repeat("x", 256)}, {Kind: 2, S: strings.Repeat("é", 128)}, {Kind: 2, S: strings.Repeat(`"`, 256)}, {Kind: 2, S: strings.Repeat("x", 1<<16)}, {Kind: 2, N: 1}, {Kind: 2, N: -1, S: "a"},
		{Kind: 3, N: 2}, {Kind: 3, N: -1}, {Kind: 3, N: math.MinInt}, {Kind: 3, S: "TRUE"}, {Kind: 3, N: 1, S: "TRUE"},
		{Kind: 4}, {Kind: 4, N: -1}, {Kind: 4, N: 9}, {Kind: 4, N: math.MaxInt}, {Kind: 4, N: 1, S: "#DIV/0!"},
	} {
		bad(t, val(v))
	}
}

func TestGoodOfRefs(t *testing.T) {
	for _, r := range []api.Ref{
		{}, at(0, 1), at(1, 0), at(-1, 1), at(1, -1), at(65, 1), at(1, 27), at(math.MaxInt, 1), at(1, math.MinInt), at(1<<32+1, 1), fixed(at(0, 0), true, true),
		of("", "A1", at(1, 1)), of("", "TRUE", at(1, 1)), of("", "a b", at(1, 1)), of("", "abcdefghijklmnopq", at(1, 1)), of("", "é", at(1, 1)), of("", "Jan", at(0, 1)),
		of("b", "", at(1, 1)), of("1", "Jan", at(1, 1)), of("b", "1", at(1, 1)), of("[b]", "Jan", at(1, 1)), of("FALSE", "Jan", at(1, 1)), of("b", "Jan", at(65, 1)),
	} {
		bad(t, ref(r))
		bad(t, area(r, at(1, 1)))
		bad(t, area(at(1, 1), r))
		bad(t, area(r, r))
	}
	// An area's second ref has no names of its own, even if they are those of the first one.
	for _, names := range [][2]string{{"", "Jan"}, {"Acme", "Jan"}, {"Acme", ""}} {
		to := of(names[0], names[1], at(2, 2))
		bad(t, area(at(1, 1), to))
		bad(t, area(of("", "Jan", at(1, 1)), to))
		bad(t, area(of("Acme", "Jan", at(1, 1)), to))
	}
}

func TestGoodOfNames(t *testing.T) {
	for _, s := range []string{"", " ", "_", "1", "A1", "a1", "A65", "A100", "TRUE", "true", "False", "a b", "a-b", "a.b", "[b]a", "a!", "$a", "é", "\xff", "abcdefghijklmnopq", "_a", "1a"} {
		bad(t, name(s))
		bad(t, nameOf("b", s))
		if s != "" {
			bad(t, nameOf(s, "tax"))
		}
		if s != "TRUE" {
			bad(t, call(s))
			bad(t, call(s, num(1)))
		}
	}
	for _, s := range []string{"a", "tax", "TAX", "a_1", "TRUE1", "abcdefghijklmnop"} {
		same(t, formula.Good(name(s)), true, "Good of name", s)
		same(t, formula.Good(nameOf(s, s)), true, "Good of name", s, s)
	}
	// A function's name stands in capital letters.
	for _, s := range []string{"F", "SUM", "X_1", "LOG10", "TRUE", "FALSE", "TRUE1", "ABCDEFGHIJKLMNOP"} {
		same(t, formula.Good(call(s)), true, "Good of call", s)
		bad(t, call(strings.ToLower(s)))
		bad(t, call(s[:len(s)-1]+strings.ToLower(s[len(s)-1:])+"x"))
		bad(t, call(s+" "))
		bad(t, call("[b]"+s))
		bad(t, api.Node{Kind: 7, S: s, Ref: api.Ref{Book: "b"}})
	}
}

func TestGoodOfOperators(t *testing.T) {
	for _, b := range binaries() {
		same(t, formula.Good(bin(b.s, num(1), num(2))), true, "Good of", b.s)
		if b.s != "-" {
			bad(t, api.Node{Kind: 5, S: b.s, Args: []api.Node{num(1)}})
		}
	}
	for _, s := range []string{"", " ", "x", "%", "(", ")", ",", ":", "==", "=<", "=>", "><", "!", "!=", "**", "+ ", " +", "--", "<>=", "\xff", "AND", "+1", "-\x00"} {
		bad(t, bin(s, num(1), num(2)))
		if s != "%" {
			bad(t, api.Node{Kind: 5, S: s, Args: []api.Node{num(1)}})
		}
	}
}

// TestGoodOfCountsOfArgs: too few and too many.
func TestGoodOfCountsOfArgs(t *testing.T) {
	for count := range 40 {
		l := make([]api.Node, count)
		for i := range l {
			l[i] = num(i)
		}
		for _, x := range []struct {
			node api.Node
			good bool
		}{
			{api.Node{Kind: 5, S: "-", Args: l}, count == 1},
			{api.Node{Kind: 5, S: "%", Args: l}, count == 1},
			{bin("+", l...), count == 2},
			{bin("-", l...), count == 2},
			{bin("<=", l...), count == 2},
			{call("F", l...), count <= api.MaxArgs},
		} {
			if x.good {
				same(t, formula.Good(x.node), true, "Good", shown(x.node))
			} else {
				bad(t, x.node)
			}
		}
	}
	bad(t, call("F", make([]api.Node, 1000)...))
}

// TestGoodOfDeepTrees: up to MaxDepth.
func TestGoodOfDeepTrees(t *testing.T) {
	for depth := 1; depth < 60; depth++ {
		for _, x := range tall(depth) {
			if depth <= api.MaxDepth {
				same(t, formula.Good(x.node), true, "Good", shown(x.node))
			} else {
				bad(t, x.node)
			}
		}
	}
	// The last of many is the deep one; so is the one with something wrong.
	deepest, tooDeep := tall(23)[5].node, tall(24)[5].node
	same(t, formula.Good(call("F", num(1), num(2), deepest)), true, "Good of the deepest")
	bad(t, call("F", num(1), num(2), tooDeep))
	bad(t, bin("+", tooDeep, num(1)))
	bad(t, bin("+", num(1), tooDeep))
	n := name("A1")
	for depth := range 40 {
		same(t, formula.Good(n), false, "Good of a wrong name so deep", depth)
		same(t, formula.Print(n), "", "Print of a wrong name so deep", depth)
		n = []api.Node{neg(n), bin("+", num(1), n), call("F", num(1), n, num(2))}[depth%3]
	}
}

// TestGoodOfVeryDeepTrees: they are left where they are too deep, so that those of which a list is within itself are refused too.
func TestGoodOfVeryDeepTrees(t *testing.T) {
	n := num(1)
	for range 1 << 16 {
		n = neg(n)
	}
	same(t, formula.Good(n), false, "Good of a very deep tree")
	same(t, formula.Print(n), "", "Print of a very deep tree")
	for _, n := range []api.Node{call("F", num(1), num(2), num(3)), bin("+", num(1), num(2)), neg(num(1))} {
		for i := range n.Args {
			n.Args[i] = n
		}
		same(t, formula.Good(n), false, "Good of a tree within itself")
		same(t, formula.Print(n), "", "Print of a tree within itself")
	}
}
