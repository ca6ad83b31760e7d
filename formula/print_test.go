package formula_test

import (
	"strings"
	"testing"

	"octavo/api"
	"octavo/formula"
)

// P10.2: Print.

func TestPrintOfTheExamples(t *testing.T) {
	prints(t, "(1+2)*3", bin("*", bin("+", num(1), num(2)), num(3)))
	prints(t, "1+2*3", bin("+", num(1), bin("*", num(2), num(3))))
	prints(t, "-A1^2", bin("^", neg(cell(1, 1)), num(2)))
	prints(t, "-2%", neg(pct(num(2))))
}

func TestPrintOfSingles(t *testing.T) {
	for _, x := range leaves() {
		prints(t, x.text, x.node)
	}
	// A tree is good whatever its text's length is; its text may be too long to be parsed.
	for _, x := range []struct {
		s    string
		want string
	}{{strings.Repeat("x", 254), `"` + strings.Repeat("x", 254) + `"`}, {strings.Repeat("x", 255), `"` + strings.Repeat("x", 255) + `"`}, {strings.Repeat(`"`, 255), strings.Repeat(`"`, 512)}} {
		same(t, formula.Print(str(x.s)), x.want, "Print of a long text", x.s)
		refuses(t, x.want, api.ErrText)
	}
}

// TestPrintOfCalls: no argument needs brackets.
func TestPrintOfCalls(t *testing.T) {
	for count := range api.MaxArgs + 1 {
		s, n := many(count)
		prints(t, s, n)
		prints(t, "-"+s+"%", neg(pct(n)))
		prints(t, s+"="+s, bin("=", n, n))
		prints(t, "F(1,"+s+")", call("F", num(1), n))
	}
	for _, b := range binaries() {
		prints(t, "F(1"+b.s+"2,-3,4%,G(5"+b.s+"6))", call("F", bin(b.s, num(1), num(2)), neg(num(3)), pct(num(4)), call("G", bin(b.s, num(5), num(6)))))
	}
}

// TestPrintOfTwoOperators: brackets on the left and on the right, where they are needed and where not.
func TestPrintOfTwoOperators(t *testing.T) {
	one, two, three := num(1), num(2), num(3)
	for _, a := range binaries() {
		prints(t, "1"+a.s+"2", bin(a.s, one, two))
		for _, b := range binaries() {
			inner := "1" + b.s + "2"
			if b.binds < a.binds {
				inner = "(" + inner + ")"
			}
			prints(t, inner+a.s+"3", bin(a.s, bin(b.s, one, two), three))
			inner = "2" + b.s + "3"
			if b.binds <= a.binds {
				inner = "(" + inner + ")"
			}
			prints(t, "1"+a.s+inner, bin(a.s, one, bin(b.s, two, three)))
		}
	}
}

func TestPrintOfSignsAboutOperators(t *testing.T) {
	one, two := num(1), num(2)
	for _, a := range binaries() {
		n := bin(a.s, one, two)
		prints(t, "-(1"+a.s+"2)", neg(n))
		prints(t, "(1"+a.s+"2)%", pct(n))
		prints(t, "-(1"+a.s+"2)%", neg(pct(n)))
		prints(t, "(-(1"+a.s+"2))%", pct(neg(n)))
		prints(t, "--(1"+a.s+"2)", neg(neg(n)))
		prints(t, "(1"+a.s+"2)%%", pct(pct(n)))
		prints(t, "-1"+a.s+"-2", bin(a.s, neg(one), neg(two)))
		prints(t, "1%"+a.s+"2%", bin(a.s, pct(one), pct(two)))
		prints(t, "-1%"+a.s+"-2%", bin(a.s, neg(pct(one)), neg(pct(two))))
		prints(t, "(-1)%"+a.s+"(-2)%", bin(a.s, pct(neg(one)), pct(neg(two))))
		prints(t, "-(1"+a.s+"2)"+a.s+"(1"+a.s+"2)%", bin(a.s, neg(n), pct(n)))
	}
	prints(t, "--1", neg(neg(one)))
	prints(t, "1%%", pct(pct(one)))
	prints(t, "-1%", neg(pct(one)))
	prints(t, "(-1)%", pct(neg(one)))
	prints(t, "(--1)%", pct(neg(neg(one))))
	prints(t, "(-1%)%", pct(neg(pct(one))))
	prints(t, "-(-1)%", neg(pct(neg(one))))
	prints(t, "--1%%", neg(neg(pct(pct(one)))))
	prints(t, "-A1:B2%", neg(pct(area(at(1, 1), at(2, 2)))))
	prints(t, "1--1", bin("-", one, neg(one)))
	prints(t, "1%-1", bin("-", pct(one), one))
}

// TestPrintOfLongRows: from the left none are needed, from the right all.
func TestPrintOfLongRows(t *testing.T) {
	for _, b := range binaries() {
		left, right := num(1), num(1)
		for n := range api.MaxDepth {
			prints(t, "1"+strings.Repeat(b.s+"1", n), left)
			s := "1"
			if n > 0 {
				s = strings.Repeat("1"+b.s+"(", n-1) + "1" + b.s + "1" + strings.Repeat(")", n-1)
			}
			prints(t, s, right)
			left, right = bin(b.s, left, num(1)), bin(b.s, num(1), right)
		}
		bad(t, left)
		bad(t, right)
	}
}

// TestPrintOfAllSmallTrees: held against the second way.
func TestPrintOfAllSmallTrees(t *testing.T) {
	all := small(3)
	for _, n := range all {
		same(t, formula.Print(n), shortest(n), "Print")
	}
	for i, a := range all {
		for _, op := range []string{"<", "&", "-", "/", "^"} {
			b := all[i*7%200]
			for _, n := range []api.Node{bin(op, a, b), bin(op, b, a), neg(a), pct(a)} {
				same(t, formula.Print(n), shortest(n), "Print")
			}
		}
	}
}

func TestPrintIsTheSecondWay(t *testing.T) {
	held := 0
	for _, n := range trees(15000, 5) {
		got := formula.Print(n)
		if len(got) > 200 {
			continue
		}
		if want := shortest(n); got != want {
			t.Fatalf("Print(%s): %q, want %q", shown(n), got, want)
		}
		held++
	}
	if held < 10000 {
		t.Fatalf("only %d are short", held)
	}
}

// TestPrintIsNotLonger: than any text that is parsed to the tree; without one of its bytes a text is not parsed to it any more.
func TestPrintIsNotLonger(t *testing.T) {
	l := short(7, "1", "-", "%", "(", ")", "+")
	l = append(l, short(6, "A1", "*", "(", ")", "^", "-")...)
	l = append(l, mixed(100000, 6)...)
	for _, s := range l {
		n, e := formula.Parse(s)
		if e != api.OK {
			continue
		}
		if printed := formula.Print(n); len(printed) > len(s) || printed == "" {
			t.Fatalf("Print of %q: %q", s, printed)
		}
	}
	for _, n := range trees(3000, 7) {
		s := formula.Print(n)
		for i := range s {
			if got, e := formula.Parse(s[:i] + s[i+1:]); e == api.OK && equal(got, n) {
				t.Fatalf("Print(%s): %q, which does not need its byte %d", shown(n), s, i)
			}
		}
	}
}

// TestPrintHasNoBlanks: outside of texts.
func TestPrintHasNoBlanks(t *testing.T) {
	for _, n := range trees(30000, 8) {
		s := strings.ReplaceAll(formula.Print(n), `" "`, "")
		if s == "" && formula.Print(n) == "" || strings.ContainsAny(s, " \t") {
			t.Fatalf("Print(%s): %q", shown(n), formula.Print(n))
		}
	}
}
