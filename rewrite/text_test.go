package rewrite_test

import (
	"math/rand"
	"strings"
	"testing"

	"octavo/api"
	"octavo/formula"
	"octavo/rewrite"
)

// P14.2

func TestTextOfTheExamples(t *testing.T) {
	same(t, asked(rewrite.Text("=A3+B1", inS, rows(2, 2))), texts{"=A5+B1", true, api.OK}, "Text")
	same(t, asked(rewrite.Text("=A1:A4", inS, rows(2, -2))), texts{"=A1:A2", true, api.OK}, "Text")
	same(t, asked(rewrite.Text("=A2", inS, rows(2, -1))), texts{"=#REF!", true, api.OK}, "Text")
	same(t, asked(rewrite.Text("=T!A1", inS, drop())), texts{"=T!A1", false, api.OK}, "Text")
}

// What is no formula stays, whatever it says.
func TestTextOfOtherTexts(t *testing.T) {
	long := strings.Repeat("A3+", 100)
	for _, s := range []string{"", " ", "A3", "A3+A4", " =A3", "+A3", "'=A3", "12", "S!A3", "TRUE", "#REF!", "\x00", "\xff=A3", "é", long, "x" + long,
		"=", "==", "= ", "=+", "=A3+", "==A3", "=(A3", "=A3)", "=A65+A3", "=A3:S!A4", "=SUM(A3,)", "=A3 A4", "=\"A3", "=A3\xff", "=A3;A4", "=!A3", "=" + long, "=" + long + "A3", "=A3+" + strings.Repeat("(", 30) + "A3" + strings.Repeat(")", 30) + "+"} {
		for _, c := range []rewrite.Change{drop(), rows(1, 1), rows(1, -64), cols(1, 1), {Book: "b", Sheet: "S"}} {
			same(t, asked(rewrite.Text(s, inS, c)), texts{s, false, api.OK}, "Text", s, c)
		}
	}
	deep := "=" + strings.Repeat("-", api.MaxDepth) + "A3"
	same(t, asked(rewrite.Text(deep, inS, rows(1, 1))), texts{deep, false, api.OK}, "Text of one that is too deep", deep)
	same(t, asked(rewrite.Text(deep[:1]+deep[2:], inS, rows(1, 1))), texts{deep[:1] + deep[2:len(deep)-1] + "4", true, api.OK}, "Text of one that is just as deep as may be", deep)
}

// A formula is printed anew if anything in it is another one, and only then.
func TestTextIsPrintedAnewOrStays(t *testing.T) {
	for _, x := range []struct{ was, is string }{
		{"= a3 + ( 1 ) ", "=A4+1"}, {"=sum( S!A3 , TRUE , 1.50 )", "=SUM(S!A4,TRUE,1.5)"}, {"=((A1))+A3", "=A1+A4"}, {"= B2 : A1", "=A1:B2"}, {"=(A64)", "=#REF!"}, {"=true&A3", "=TRUE&A4"}, {"=sum( A3 )", "=SUM(A4)"},
	} {
		same(t, asked(rewrite.Text(x.was, inS, rows(3, 1))), texts{x.is, true, api.OK}, "Text", x.was)
	}
	for _, s := range []string{"= A1 + ( 1 ) ", "=sum( A1 , true , 1.50 )", "=((A1))", "= T!B2:A1", "=(tax)", "= 1 "} {
		same(t, asked(rewrite.Text(s, inS, rows(3, 1))), texts{s, false, api.OK}, "Text that stays", s)
	}
}

// filled: a formula of so many bytes with its =, which begins with s and goes on with a text.
func filled(s string, length int) string {
	return "=" + s + `&"` + strings.Repeat("x", length-len(s)-4) + `"`
}

// A text may have MaxText bytes behind the change, its = among them.
func TestTextAtTheEnd(t *testing.T) {
	for length := 100; length <= api.MaxText; length++ {
		s := filled("A9", length)
		same(t, len(s), length, "the length")
		want := texts{filled("A10", length+1), true, api.OK}
		if length == api.MaxText {
			want = texts{"", false, api.ErrText}
		}
		same(t, asked(rewrite.Text(s, inS, rows(9, 1))), want, "Text", s)
		same(t, asked(rewrite.Text(s, inS, rows(8, 1))), want, "Text", s)
		// As long as before, shorter, and as it was.
		same(t, asked(rewrite.Text(s, inS, rows(8, -1))), texts{filled("A8", length), true, api.OK}, "Text", s)
		same(t, asked(rewrite.Text(s, inS, rows(10, 1))), texts{s, false, api.OK}, "Text", s)
		same(t, asked(rewrite.Text(s, inT, rows(9, 1))), texts{s, false, api.OK}, "Text", s)
		if length < api.MaxText-2 {
			same(t, asked(rewrite.Text(s, inS, drop())), texts{filled("#REF!", length+3), true, api.OK}, "Text", s)
		} else {
			same(t, asked(rewrite.Text(s, inS, drop())), texts{"", false, api.ErrText}, "Text", s)
		}
	}
	// A formula that is MaxText bytes long without its = is one; it may become shorter, but not stay so long.
	s := filled("A10", api.MaxText+1)
	same(t, asked(rewrite.Text(s, inS, rows(9, -1))), texts{filled("A9", api.MaxText), true, api.OK}, "Text", s)
	same(t, asked(rewrite.Text(s, inS, rows(9, 1))), texts{"", false, api.ErrText}, "Text", s)
	same(t, asked(rewrite.Text(s, inS, rows(11, 1))), texts{s, false, api.OK}, "Text", s)
	s = filled("A10", api.MaxText+2)
	same(t, asked(rewrite.Text(s, inS, rows(9, -1))), texts{s, false, api.OK}, "Text of what is too long for a formula", s)
}

// Many small parts, each of which gets longer.
func TestTextOfManyParts(t *testing.T) {
	for count := 1; count <= 15; count++ {
		l, is := strings.Repeat("A9:B9,", count), strings.Repeat("A10:B10,", count)
		l, is = "=F("+l[:len(l)-1]+",A9:B9)", "=F("+is[:len(is)-1]+",A10:B10)"
		same(t, asked(rewrite.Text(l, inS, rows(1, 1))), texts{is, true, api.OK}, "Text", l)
	}
	part := "[abcdefghijklmnop]S!A9"
	for count := 1; count <= 11; count++ {
		s := "=" + strings.Repeat(part+"+", count-1) + part
		c := rows(1, 1)
		c.Book = "abcdefghijklmnop"
		want := texts{strings.ReplaceAll(s, "A9", "A10"), true, api.OK}
		if len(want.text) > api.MaxText {
			want = texts{"", false, api.ErrText}
		}
		same(t, asked(rewrite.Text(s, inS, c)), want, "Text", s)
	}
}

// TestTextByTheModel: as the second way tells.
func TestTextByTheModel(t *testing.T) {
	r := rand.New(rand.NewSource(2))
	count := map[api.Errno]int{}
	for range 60000 {
		n, home, c := anyTree(r, 1+r.Intn(5)), anyHome(r), anyChange(r)
		s := "=" + formula.Print(n)
		if r.Intn(4) == 0 && len(s) < 200 { // near the end of what may be
			n = api.Node{Kind: 7, S: "F", Args: []api.Node{n, {Kind: 1, Value: api.Value{Kind: 2, S: strings.Repeat("x", api.MaxText-len(s)-6-r.Intn(3))}}}}
			s = "=" + formula.Print(n)
		}
		if len(s) > api.MaxText {
			continue
		}
		turned := modelOf(home, c).node(n)
		want := texts{"=" + formula.Print(turned), !equal(n, turned), api.OK}
		if want.other && len(want.text) > api.MaxText {
			want = texts{"", false, api.ErrText}
		}
		same(t, asked(rewrite.Text(s, home, c)), want, "Text", s, home, c)
		count[want.e]++
	}
	if count[api.OK] < 40000 || count[api.ErrText] < 20 {
		t.Fatalf("so many answers: %v", count)
	}
}

// Names looks at refs and areas, and at where they are; not at what the change does.
func TestNames(t *testing.T) {
	for _, x := range []struct {
		s                 string
		inS, inT, inOther bool
	}{
		{"A1", true, false, false}, {"A1:B2", true, false, false}, {"S!A1", true, true, false}, {"S!A1:B2", true, true, false}, {"[b]S!A1", true, true, true}, {"[b]S!B2:A1", true, true, true},
		{"T!A1", false, false, false}, {"[b]T!A1", false, false, false}, {"[c]S!A1", false, false, false}, {"s!A1", false, false, false}, {"[B]S!A1", false, false, false},
		{"1", false, false, false}, {"S", false, false, false}, {"[b]S", false, false, false}, {"\"S!A1\"", false, false, false}, {"F()", false, false, false}, {"#REF!", false, false, false},
		{"-A1", true, false, false}, {"1+S!A1%", true, true, false}, {"SUM(T!A1,1,IF(tax,2,[b]S!A1))", true, true, true}, {"T!A1+[c]S!A1:B2", false, false, false}, {"F(1,G(-(2+A1)))", true, false, false}, {"F(T!A1,A1,T!A1)", true, false, false},
	} {
		n := tree(t, x.s)
		for _, c := range []rewrite.Change{drop(), rows(9, 1), cols(9, -1), rows(1, -64), {Book: "b", Sheet: "S"}, {Book: "b", Sheet: "S", Cols: true}} {
			same(t, rewrite.Names(n, inS, c), x.inS, "Names in S", x.s, c)
			same(t, rewrite.Names(n, inT, c), x.inT, "Names in T", x.s, c)
			same(t, rewrite.Names(n, inOther, c), x.inOther, "Names in another book", x.s, c)
		}
	}
	same(t, rewrite.Names(api.Node{}, api.Place{}, rewrite.Change{}), false, "Names of nothing")
	same(t, rewrite.Names(ref(api.Ref{}), api.Place{}, rewrite.Change{}), true, "Names of a ref of nothing")
	same(t, rewrite.Names(area(at(99, 99), at(0, 0)), inS, drop()), true, "Names of an area that may not be")
	same(t, rewrite.Names(area(of("", "T", at(1, 1)), of("", "S", at(1, 1))), inS, drop()), false, "Names goes by Ref")
}
