package formula_test

import (
	"math/rand"
	"strings"
	"testing"

	"octavo/api"
	"octavo/formula"
	"octavo/token"
)

// P10.1

func TestParseOfTheExamples(t *testing.T) {
	parses(t, "1+2*3", bin("+", num(1), bin("*", num(2), num(3))))
	parses(t, "(1+2)*3", bin("*", bin("+", num(1), num(2)), num(3)))
	parses(t, "-A1^2", bin("^", neg(cell(1, 1)), num(2)))
	refuses(t, "SUM(A1:B2,)", api.ErrForm)
	parses(t, "-2%", neg(pct(num(2))))
}

func TestParseOfFormulas(t *testing.T) {
	parses(t, `if(A1<>"",sum($A$1:b2)*tax%,-1)`, call("IF",
		bin("<>", cell(1, 1), str("")),
		bin("*", call("SUM", area(fixed(at(1, 1), true, true), at(2, 2))), pct(name("tax"))),
		neg(num(1))))
	parses(t, "[Acme]Jan!B7&\" \"&[b]rate >= TRUE", bin(">=",
		bin("&", bin("&", ref(of("Acme", "Jan", at(7, 2))), str(" ")), nameOf("b", "rate")),
		truth(1)))
	parses(t, "2^-1/3--4%", bin("-", bin("/", bin("^", num(2), neg(num(1))), num(3)), neg(pct(num(4)))))
	parses(t, "SUM(A1:A4)/COUNT(A1:A4)=#N/A", bin("=", bin("/", call("SUM", area(at(1, 1), at(4, 1))), call("COUNT", area(at(1, 1), at(4, 1)))), fault(6)))
}

// TestParseOfLongTexts: the length is looked at ahead of all else.
func TestParseOfLongTexts(t *testing.T) {
	fill := func(begin, each, end string, n int) string {
		return begin + strings.Repeat(each, n-len(begin)-len(end)) + end
	}
	parses(t, fill("", " ", "1", api.MaxText), num(1))
	parses(t, fill("1", "\t", "", api.MaxText), num(1))
	parses(t, fill(`"`, "x", `"`, api.MaxText), str(strings.Repeat("x", 253)))
	parses(t, strings.Repeat("(", 127)+"1"+strings.Repeat(")", 127), num(1))
	parses(t, fill("1+", " ", "2", api.MaxText), bin("+", num(1), num(2)))
	for _, n := range []int{api.MaxText + 1, api.MaxText + 2, 512, 1 << 16} {
		for _, s := range []string{fill("", " ", "1", n), fill("1", " ", "", n), fill(`"`, "x", `"`, n), fill("(", "(", "1", n), fill("", "!", "", n), fill("", "+", "", n), fill("", "\xff", "", n), fill("", " ", "", n), fill("F(", ",", ")", n), fill("", "-", "1", n)} {
			refuses(t, s, api.ErrText)
		}
	}
	for _, s := range []string{fill("", " ", "", 255), fill("", "(", "", 255), fill("", ")", "", 255), fill("", "-", "", 255), fill("1", "+", "1", 255), fill("", "!", "", 255), fill("F(", ",", ")", 255), fill("", "%", "", 255), fill("(", "(", "1)", 255)} {
		refuses(t, s, api.ErrForm)
	}
	// Bytes are counted, not characters.
	parses(t, `"`+strings.Repeat("é", 126)+`"`, str(strings.Repeat("é", 126)))
	refuses(t, `"`+strings.Repeat("é", 127)+`"`, api.ErrText)
}

func TestParseOfNothing(t *testing.T) {
	for _, s := range []string{"", " ", "\t", "   ", " \t ", "()", "( )", "(())", "-()", "()%", "1+()", "()()", "(", ")", ",", ":", ")("} {
		refuses(t, s, api.ErrForm)
	}
}

// TestParseOfSingles: each node alone, in blanks, in brackets, and under - and %.
func TestParseOfSingles(t *testing.T) {
	for _, x := range leaves() {
		parses(t, x.text, x.node)
		if len(x.text) > 240 {
			continue
		}
		for _, blank := range []string{" ", "\t", " \t  "} {
			parses(t, blank+x.text, x.node)
			parses(t, x.text+blank, x.node)
			parses(t, blank+x.text+blank, x.node)
			parses(t, "("+blank+x.text+blank+")", x.node)
			parses(t, "-"+blank+x.text+blank+"%", neg(pct(x.node)))
		}
		parses(t, "("+x.text+")", x.node)
		parses(t, "((("+x.text+")))", x.node)
		parses(t, "-"+x.text, neg(x.node))
		parses(t, x.text+"%", pct(x.node))
		parses(t, "F("+x.text+")", call("F", x.node))
	}
}

// TestParseRefusesTwoBehindEachOther: with or without a blank between.
func TestParseRefusesTwoBehindEachOther(t *testing.T) {
	for _, a := range leaves() {
		for _, b := range leaves() {
			for _, s := range []string{a.text + " " + b.text, "(" + a.text + ")(" + b.text + ")", "(" + a.text + ")" + b.text, a.text + "%" + b.text, "F(" + a.text + " " + b.text + ")", a.text + "," + b.text, "(" + a.text + "," + b.text + ")"} {
				if len(s) <= api.MaxText {
					refuses(t, s, api.ErrForm)
				}
			}
		}
	}
	for _, s := range []string{"1 2", "1A1", "A1 B2", `1"a"`, `"a" "b"`, "tax rate", "TRUE FALSE", "#N/A#N/A", "1#N/A", "F()1", "F()F()", "1e5", "1(2)", "A1(2)", `"a"(1)`, "#REF!(1)", "F()(1)", "(1)(2)", "1%2", "A1:B2 C3", "1 -2 3"} {
		refuses(t, s, api.ErrForm)
	}
}

func TestParseOfTruths(t *testing.T) {
	for i, s := range []string{"FALSE", "TRUE"} {
		for _, x := range sizes(s) {
			parses(t, x, truth(i))
			parses(t, " "+x+" ", truth(i))
			parses(t, x+"&"+x, bin("&", truth(i), truth(i)))
			// Functions are called so too.
			parses(t, x+"()", call(s))
			parses(t, x+" ( 1 )", call(s, num(1)))
			refuses(t, "[b]"+x, api.ErrForm)
			parses(t, x+"_", name(x+"_"))
			parses(t, `"`+x+`"`, str(x))
		}
	}
}

// TestParseOfNames: their letters stay as they are.
func TestParseOfNames(t *testing.T) {
	for _, s := range []string{"a", "Z", "tax", "Tax", "TAX", "SUM", "sum", "a_1", "AB1", "TRUE1", "xFALSE", "ABCDEFGHIJKLMNOP", "a234567890b23456"} {
		parses(t, s, name(s))
		parses(t, "[b]"+s, nameOf("b", s))
		parses(t, "[B]"+s+"%", pct(nameOf("B", s)))
		parses(t, s+"+[abcdefghijklmnop]"+s, bin("+", name(s), nameOf("abcdefghijklmnop", s)))
		// A function is one of no book.
		for _, end := range []string{"()", "(1)", " (1)", "(1,2)", "("} {
			refuses(t, "[b]"+s+end, api.ErrForm)
			refuses(t, "1+[b]"+s+end, api.ErrForm)
		}
	}
	for _, s := range []string{"abcdefghijklmnopq", "_a", "1a", "[b]", "[b]A1", "[b]1", "[1]a", "[b]TRUE", "[TRUE]a", "[A1]a", "tax:A1", "A1:tax", "tax:rate", "[b]tax:A1"} {
		refuses(t, s, api.ErrForm)
	}
}

func TestParseOfAreas(t *testing.T) {
	froms := []leaf{{"A1", cell(1, 1)}, {"z$64", ref(fixed(at(64, 26), false, true))}, {"Jan!$C3", ref(of("", "Jan", fixed(at(3, 3), true, false)))}, {"[Acme]Jan!D4", ref(of("Acme", "Jan", at(4, 4)))}}
	for _, from := range froms {
		for _, to := range froms {
			s := from.text + ":" + to.text
			if to.node.Ref.Sheet != "" {
				refuses(t, s, api.ErrForm)
				refuses(t, "SUM("+s+")", api.ErrForm)
				continue
			}
			n := area(from.node.Ref, to.node.Ref)
			parses(t, s, n)
			parses(t, from.text+" : "+to.text, n)
			parses(t, "SUM("+s+","+s+")", call("SUM", n, n))
			parses(t, s+"%", pct(n))
			parses(t, "-"+s, neg(n))
			parses(t, s+"+"+s, bin("+", n, n))
			parses(t, "("+s+")", n)
			for _, wrong := range []string{s + ":C3", s + ":", ":" + s, s + ":" + s, "(" + s + "):C3", "C3:(" + s + ")", "(" + from.text + "):" + to.text, from.text + ":(" + to.text + ")", from.text + "::" + to.text, from.text + ":-" + to.text, from.text + "%:" + to.text, from.text + ":", ":" + to.text, from.text + ":F()", "F():" + to.text} {
				refuses(t, wrong, api.ErrForm)
			}
		}
	}
	for _, x := range leaves() {
		if x.node.Kind != api.NodeRef && len(x.text) < 200 {
			refuses(t, "A1:"+x.text+"+1", api.ErrForm)
		}
		if x.node.Kind != api.NodeRef {
			refuses(t, x.text+":A1", long(x.text+":A1"))
		}
	}
}

// long: which error a text has that is no formula.
func long(s string) api.Errno {
	if len(s) > 255 {
		return api.ErrText
	}
	return api.ErrForm
}

// many: a call's text and tree with so many arguments.
func many(count int) (string, api.Node) {
	n := call("SUM")
	var l []string
	for i := range count {
		l = append(l, []string{"1", "A1", "-2", "1+2"}[i%4])
		n.Args = append(n.Args, []api.Node{num(1), cell(1, 1), neg(num(2)), bin("+", num(1), num(2))}[i%4])
	}
	return "SUM(" + strings.Join(l, ",") + ")", n
}

func TestParseOfCalls(t *testing.T) {
	for count := range 30 {
		s, n := many(count)
		if count > api.MaxArgs {
			for _, wrong := range []string{s, "-" + s, "F(" + s + ")", s + "+1", "F(1," + s + ")"} {
				refuses(t, wrong, api.ErrForm)
			}
			continue
		}
		parses(t, s, n)
		parses(t, strings.ToLower(s), n)
		parses(t, strings.ReplaceAll(strings.ReplaceAll(s, "(", " ( "), ",", " , "), n)
		parses(t, "F("+s+","+s+")", call("F", n, n))
		// A comma too many, or a bracket too few.
		inside := s[4 : len(s)-1]
		for _, wrong := range []string{"SUM(," + inside + ")", "SUM(" + inside + ",)", "SUM(" + inside + ",,1)", "SUM(" + inside, "SUM(" + inside + "))", "SUM" + inside + ")", "SUM(" + inside + ",", "SUM(" + inside + "(", "SUM(" + inside + ":)", "SUM((" + inside + ")", "SUM(,)", "SUM(,,)"} {
			refuses(t, wrong, api.ErrForm)
		}
		for i := range s {
			if s[i] == ',' {
				refuses(t, s[:i]+","+s[i:], api.ErrForm)
				refuses(t, s[:i]+" , "+s[i:], api.ErrForm)
			}
		}
	}
	for _, s := range []string{"sum", "Sum", "sUM", "SUM", "a_b", "log10", "x1y", "abcdefghijklmnop"} {
		up := strings.ToUpper(s)
		parses(t, s+"()", call(up))
		parses(t, s+"( )", call(up))
		parses(t, s+" (1)", call(up, num(1)))
		parses(t, s+"(x,"+s+"(X))", call(up, name("x"), call(up, name("X"))))
		parses(t, s+"((1))", call(up, num(1)))
		parses(t, s+"()%", pct(call(up)))
		parses(t, "-"+s+"()", neg(call(up)))
		parses(t, s+"()^"+s+"()", bin("^", call(up), call(up)))
		parses(t, s+"(1=2,3&4)", call(up, bin("=", num(1), num(2)), bin("&", num(3), num(4))))
		for _, wrong := range []string{s + "(", s + ")", s + "(1", s + "1)", s + "(1,", s + "(1 2)", s + "((1,2))", s + "(1)(2)", s + "(1))", s + "(-)", s + "(1+)", s + "(:)", "(" + s + ")(1)", s + "!(1)", s + "%(1)"} {
			refuses(t, wrong, api.ErrForm)
		}
	}
	// What looks like a cell is no function.
	for _, s := range []string{"A1()", "a1(1)", "Z64(1,2)", "A65(1)", "$A1(1)", "Jan!A1(1)", "1(1)", "_f(1)", "abcdefghijklmnopq(1)"} {
		refuses(t, s, api.ErrForm)
	}
}

// TestParseOfTwoOperators: each one with each one on its left and on its right.
func TestParseOfTwoOperators(t *testing.T) {
	one, two, three := num(1), num(2), num(3)
	for _, a := range binaries() {
		parses(t, "1"+a.s+"2", bin(a.s, one, two))
		parses(t, " 1 "+a.s+" 2 ", bin(a.s, one, two))
		for _, b := range binaries() {
			left, right := bin(b.s, bin(a.s, one, two), three), bin(a.s, one, bin(b.s, two, three))
			want := left
			if b.binds > a.binds {
				want = right
			}
			parses(t, "1"+a.s+"2"+b.s+"3", want)
			parses(t, "(1"+a.s+"2)"+b.s+"3", left)
			parses(t, "1"+a.s+"(2"+b.s+"3)", right)
			parses(t, "(1)"+a.s+"(2)"+b.s+"(3)", want)
			if b.s == "-" {
				parses(t, "1"+a.s+" -2", bin(a.s, one, neg(two)))
			} else {
				refuses(t, "1"+a.s+" "+b.s+"2", api.ErrForm)
			}
		}
	}
}

// TestParseOfThreeOperators: held against the second way.
func TestParseOfThreeOperators(t *testing.T) {
	for _, a := range binaries() {
		for _, b := range binaries() {
			for _, c := range binaries() {
				for _, s := range []string{"1" + a.s + "2" + b.s + "3" + c.s + "4", "-1" + a.s + "2%" + b.s + "-3" + c.s + "-4%", "1" + a.s + "(2" + b.s + "3)" + c.s + "4"} {
					want, e := split(s)
					same(t, e, api.OK, "split", s)
					parses(t, s, want)
				}
			}
		}
	}
}

func TestParseOfSignsAboutOperators(t *testing.T) {
	one, two := num(1), num(2)
	for _, a := range binaries() {
		parses(t, "-1"+a.s+"2", bin(a.s, neg(one), two))
		parses(t, "1"+a.s+"-2", bin(a.s, one, neg(two)))
		parses(t, "-1"+a.s+"-2", bin(a.s, neg(one), neg(two)))
		parses(t, "--1"+a.s+"---2", bin(a.s, neg(neg(one)), neg(neg(neg(two)))))
		parses(t, "1%"+a.s+"2", bin(a.s, pct(one), two))
		parses(t, "1"+a.s+"2%", bin(a.s, one, pct(two)))
		parses(t, "1%%"+a.s+"2%%%", bin(a.s, pct(pct(one)), pct(pct(pct(two)))))
		parses(t, "-1%"+a.s+"-2%", bin(a.s, neg(pct(one)), neg(pct(two))))
		parses(t, "-(1"+a.s+"2)", neg(bin(a.s, one, two)))
		parses(t, "(1"+a.s+"2)%", pct(bin(a.s, one, two)))
		parses(t, "-(1"+a.s+"2)%", neg(pct(bin(a.s, one, two))))
		parses(t, "(-(1"+a.s+"2))%", pct(neg(bin(a.s, one, two))))
		parses(t, "(-1)"+a.s+"(-2)", bin(a.s, neg(one), neg(two)))
	}
	parses(t, "-1", neg(one))
	parses(t, "--1", neg(neg(one)))
	parses(t, "- - 1", neg(neg(one)))
	parses(t, "1%", pct(one))
	parses(t, "1 % %", pct(pct(one)))
	parses(t, "-1%", neg(pct(one)))
	parses(t, "--1%%", neg(neg(pct(pct(one)))))
	parses(t, "(-1)%", pct(neg(one)))
	parses(t, "-(1%)", neg(pct(one)))
	parses(t, "(-(1%))%", pct(neg(pct(one))))
	parses(t, "1--1", bin("-", one, neg(one)))
	parses(t, "1%-1", bin("-", pct(one), one))
	parses(t, "1%--1%", bin("-", pct(one), neg(pct(one))))
}

// TestParseRefusesLooseOperators: at the beginning, at the end, alone and in brackets.
func TestParseRefusesLooseOperators(t *testing.T) {
	for _, a := range binaries() {
		for _, s := range []string{a.s, "1" + a.s, "(" + a.s + ")", "(1" + a.s + ")", "(1)" + a.s, "1" + a.s + ")", "F(" + a.s + ")", "F(1" + a.s + ")", "F(1" + a.s + ",2)", "1" + a.s + ",2", "1" + a.s + "%", "1" + a.s + "()", "1" + a.s + "(2", "1" + a.s + ":2", "1" + a.s + "*2", "1" + a.s + "+2", "1" + a.s + "&2", "-" + a.s, a.s + "-", a.s + "%", "1" + a.s + "2" + a.s} {
			refuses(t, s, api.ErrForm)
		}
		for _, s := range []string{a.s + "1", "(" + a.s + "1)", "F(" + a.s + "1)", "F(1," + a.s + "1)", "-" + a.s + "1", " " + a.s + " 1"} {
			if a.s != "-" {
				refuses(t, s, api.ErrForm)
			}
		}
	}
	for _, s := range []string{"-", "--", "%", "%%", "%1", "-%", "-%1", "(-)", "(%)", "1+%", "1-", "1--", "1%-", "F(-)", "F(%)", "F(1,-)", "(1+2)-", "+1", "1++2", "1+*2", "=1", "1==2", "1=<2", "1=>2", "1><2", "1<>=2", "<1", "1:2", "1,2", "1;2", "1!2", "1'2", "{1}", "1\n+2"} {
		refuses(t, s, api.ErrForm)
	}
}

func TestParseOfBrackets(t *testing.T) {
	n := bin("*", bin("+", num(1), num(2)), num(3))
	for _, s := range []string{"(1+2)*3", "((1+2))*3", "((1+2)*3)", "((1)+(2))*(3)", "(((1+2)))*((3))", "( 1 + 2 ) * 3", "(\t(1+2)\t)*3"} {
		parses(t, s, n)
		// Not closed, closed too often, and the wrong way round.
		for _, wrong := range []string{"(" + s, s + ")", ")" + s, s + "(", ")" + s + "(", "(" + s + "))", "((" + s + ")", s + "()", "()" + s, "(" + s + ")()"} {
			refuses(t, wrong, api.ErrForm)
		}
		for i := range s {
			if s[i] == '(' || s[i] == ')' {
				refuses(t, s[:i]+s[i+1:], api.ErrForm)
				refuses(t, s[:i]+s[i:i+1]+s[i:], api.ErrForm)
			}
		}
	}
	parses(t, "1+2*3", bin("+", num(1), bin("*", num(2), num(3))))
	parses(t, "1+(2*3)", bin("+", num(1), bin("*", num(2), num(3))))
	parses(t, "(1+2*3)", bin("+", num(1), bin("*", num(2), num(3))))
	parses(t, "1-(2-3)", bin("-", num(1), bin("-", num(2), num(3))))
	refuses(t, "[1]", api.ErrForm)
	refuses(t, "{1}", api.ErrForm)
}

// tall: texts and trees that are so deep, each in a way of its own.
func tall(depth int) []leaf {
	one, n := num(1), depth-1
	left, right, args, last, minus, percent := one, one, one, one, one, one
	mixed := leaf{"1", one}
	for i := range n {
		left, right = bin("+", left, one), bin("+", one, right)
		args, last = call("F", args), call("F", one, last)
		minus, percent = neg(minus), pct(percent)
		mixed = []leaf{
			{"-(" + mixed.text + ")", neg(mixed.node)},
			{"F(" + mixed.text + ",1)", call("F", mixed.node, one)},
			{"1*(" + mixed.text + ")", bin("*", one, mixed.node)},
		}[i%3]
	}
	return []leaf{
		{"1" + strings.Repeat("+1", n), left},
		{strings.Repeat("1+(", n) + "1" + strings.Repeat(")", n), right},
		{strings.Repeat("(", n) + "1" + strings.Repeat("+1)", n), left},
		{strings.Repeat("F(", n) + "1" + strings.Repeat(")", n), args},
		{strings.Repeat("F(1,", n) + "1" + strings.Repeat(")", n), last},
		{strings.Repeat("-", n) + "1", minus},
		{"1" + strings.Repeat("%", n), percent},
		mixed,
	}
}

func TestParseOfDeepFormulas(t *testing.T) {
	for depth := 1; depth <= api.MaxDepth; depth++ {
		for _, x := range tall(depth) {
			parses(t, x.text, x.node)
			parses(t, strings.Repeat("(", 50)+x.text+strings.Repeat(")", 50), x.node)
			same(t, formula.Depth(x.node), depth, "Depth", shown(x.node))
			if depth == api.MaxDepth {
				for _, s := range []string{"-(" + x.text + ")", "(" + x.text + ")%", "(" + x.text + ")=1", "1=(" + x.text + ")", "F(" + x.text + ")", "F(1,2," + x.text + ",3)"} {
					refuses(t, s, api.ErrForm)
				}
			}
		}
	}
	for depth := api.MaxDepth + 1; depth < 50; depth++ {
		for _, x := range tall(depth) {
			refuses(t, x.text, api.ErrForm)
			refuses(t, "("+x.text+")", api.ErrForm)
		}
	}
	// Two deep sides of one node; a formula that is too deep and ends wrongly.
	half := strings.Repeat("-", 22) + "1"
	parses(t, half+"+"+half, bin("+", tall(23)[5].node, tall(23)[5].node))
	refuses(t, "-"+half+"+-"+half, api.ErrForm)
	refuses(t, "1+--"+half, api.ErrForm)
	refuses(t, strings.Repeat("-", 254)+"1", api.ErrForm)
	refuses(t, "1"+strings.Repeat("%", 254), api.ErrForm)
	refuses(t, "1"+strings.Repeat("+1", 127), api.ErrForm)
	// Brackets are no nodes.
	parses(t, strings.Repeat("(", 127)+"1"+strings.Repeat(")", 127), num(1))
	parses(t, strings.Repeat("-(", 23)+"1"+strings.Repeat(")", 23), tall(24)[5].node)
}

// TestParseTellsTokensErrors: whatever stands ahead of the wrong place.
func TestParseTellsTokensErrors(t *testing.T) {
	for _, s := range []string{"!", "1.", "1.2.3", "10000001", "1.23456", `"a`, `1&"`, "#", "#N", "#n/a", "A0", "A65", "A100", "$", "$A", "_", "[", "[b", "[b]", "Jan!", "Jan!A65", "[b]A1", "é", "\xff", "1\n", "a.b", ";", "'a'"} {
		for _, x := range []string{s, "1+" + s, "(" + s + ")", "SUM(" + s + ")", s + "+1", "+" + s, ")" + s, "1 2 " + s} {
			_, e := token.Lex(x)
			same(t, e, api.ErrForm, "Lex", x)
			refuses(t, x, e)
		}
	}
}

// TestParseIsTheSecondWay: over all texts of few parts, and many others.
func TestParseIsTheSecondWay(t *testing.T) {
	l := short(6, "1", "-", "%", "(", ")", "+", "^")
	l = append(l, short(5, "1", "-", "%", "(", ")", "F", ",", "=", "&", "*")...)
	l = append(l, short(5, "A1", "S!A1", ":", "(", ")", "F", "%", " ", "-")...)
	l = append(l, short(4, "true", "[b]x", "x", "(", ")", ",", `"a"`, "#N/A", "+", "A1", "-", "%")...)
	l = append(l, mixed(200000, 1)...)
	good := 0
	for _, s := range l {
		want, wantE := split(s)
		got, e := formula.Parse(s)
		if e != wantE || !equal(got, want) {
			t.Fatalf("Parse(%q): %s, %d, want %s, %d", s, shown(got), e, shown(want), wantE)
		}
		if e == api.OK {
			good++
		}
	}
	if good < 10000 {
		t.Fatalf("only %d of %d are formulas", good, len(l))
	}
}

// TestParseOfTypedTrees: with brackets about all parts, so that the strength of operators does not count.
func TestParseOfTypedTrees(t *testing.T) {
	r := rand.New(rand.NewSource(2))
	told := 0
	for _, n := range trees(100000, 3) {
		s := typed(r, n)
		if len(s) > api.MaxText {
			refuses(t, s, api.ErrText)
			continue
		}
		parses(t, s, n)
		told++
	}
	if told < 50000 {
		t.Fatalf("only %d are short enough", told)
	}
}
