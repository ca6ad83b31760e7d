package token_test

import (
	"math"
	"math/rand"
	"slices"
	"strconv"
	"strings"
	"testing"

	"octavo/api"
	"octavo/token"
)

// P9.2

func TestPrintOfNothing(t *testing.T) {
	prints(t, "")
	same(t, token.Print(nil), "", "Print of nil")
	same(t, token.Print([]token.Token{}), "", "Print of an empty list")
}

func TestPrintOfEachKind(t *testing.T) {
	for _, r := range []struct {
		tok  token.Token
		want string
	}{
		{whole(0), "0"}, {whole(1), "1"}, {number(15000), "1.5"}, {number(1), "0.0001"}, {number(-12500), "-1.25"}, {number(api.MaxNum), "10000000"},
		{text(""), `""`}, {text("a"), `"a"`}, {text(" "), `" "`}, {text(`"`), `""""`}, {text(`""`), `""""""`}, {text(`a"b`), `"a""b"`}, {text(`"a`), `"""a"`}, {text(`a"`), `"a"""`}, {text("é"), `"é"`}, {text("\xff\"\xff"), "\"\xff\"\"\xff\""}, {text("\n\x00"), "\"\n\x00\""}, {text("A1+2"), `"A1+2"`},
		{cell(1, 1), "A1"}, {cell(64, 26), "Z64"}, {ref(fixed(at(7, 2), true, false)), "$B7"}, {ref(fixed(at(7, 2), false, true)), "B$7"}, {cellOf("", "Jan", at(7, 2)), "Jan!B7"}, {cellOf("Acme", "Jan", fixed(at(7, 2), true, true)), "[Acme]Jan!$B$7"},
		{word("tax"), "tax"}, {word("A"), "A"}, {word("TRUE"), "TRUE"}, {word("faLSe"), "faLSe"}, {wordOf("b", "tax"), "[b]tax"}, {wordOf("Acme", "Sum"), "[Acme]Sum"},
	} {
		prints(t, r.want, r.tok)
	}
	for i, s := range faults() {
		prints(t, s, fault(i+1))
	}
	for _, s := range ops() {
		prints(t, s, op(s))
	}
}

func TestPrintOfFormulas(t *testing.T) {
	prints(t, "A1+2", cell(1, 1), op("+"), whole(2))
	prints(t, `SUM(A1:B2,"x""y")*-2%`, word("SUM"), op("("), cell(1, 1), op(":"), cell(2, 2), op(","), text(`x"y`), op(")"), op("*"), op("-"), whole(2), op("%"))
	prints(t, "tax [b]tax A1 1 \"a\" #N/A", word("tax"), wordOf("b", "tax"), cell(1, 1), whole(1), text("a"), fault(6))
	prints(t, "1 2+3 4", whole(1), whole(2), op("+"), whole(3), whole(4))
}

// TestPrintOfTwoKinds: a blank stands between two of which neither is an Op, and nowhere else.
func TestPrintOfTwoKinds(t *testing.T) {
	l := []piece{{"1.5", number(15000)}, {`"a"`, text("a")}, {"B7", cell(7, 2)}, {"[b]s!B7", cellOf("b", "s", at(7, 2))}, {"tax", word("tax")}, {"[b]tax", wordOf("b", "tax")}, {"+", op("+")}, {"<", op("<")}, {">=", op(">=")}, {"#REF!", fault(3)}}
	for _, a := range l {
		for _, b := range l {
			between := " "
			if a.tok.Kind == token.Op || b.tok.Kind == token.Op {
				between = ""
			}
			if a.text == "<" && b.text == ">=" {
				continue // TestPrintOfOps has these
			}
			prints(t, a.text+between+b.text, a.tok, b.tok)
			prints(t, "("+a.text+between+b.text+")", op("("), a.tok, b.tok, op(")"))
		}
	}
}

// needBlanks: the pairs of Ops with a blank between: those that P9.2 names and, since P9.3 can hold in no other way, < and >=.
func needBlanks() []string {
	return []string{"< =", "< >", "> =", "< >="}
}

func TestPrintOfOps(t *testing.T) {
	blanks := 0
	for _, a := range ops() {
		for _, b := range ops() {
			want := a + b
			if pair := a + " " + b; slices.Contains(needBlanks(), pair) {
				want = pair
				blanks++
			}
			prints(t, want, op(a), op(b))
			prints(t, "A1"+want+"2", cell(1, 1), op(a), op(b), whole(2))
			// They stand together no more with another token between.
			prints(t, a+"x"+b, op(a), word("x"), op(b))
		}
	}
	same(t, blanks, 4, "blanks")
	prints(t, "< ==", op("<"), op("="), op("="))
	prints(t, "< > =", op("<"), op(">"), op("="))
	prints(t, "<<", op("<"), op("<"))
	prints(t, "<=>", op("<="), op(">"))
	prints(t, "><", op(">"), op("<"))
	// Texts and words of those signs are no Ops.
	prints(t, `"<"=`, text("<"), op("="))
	prints(t, `"<" "="`, text("<"), text("="))
	prints(t, "<=", op("<"), word("="))
	prints(t, "< =", word("<"), word("="))
}

// TestPrintLooksAtItsKindAlone: at what a token's kind does not name it does not look.
func TestPrintLooksAtItsKindAlone(t *testing.T) {
	full := api.Ref{Book: "b", Sheet: "s", Row: 3, Col: 4, FixRow: true, FixCol: true}
	for _, r := range []struct {
		tok  token.Token
		want string
	}{
		{token.Token{Kind: 1, N: 20000, S: "x", Ref: full}, "2"},
		{token.Token{Kind: 2, N: 20000, S: "x", Ref: full}, `"x"`},
		{token.Token{Kind: 3, N: 20000, S: "x", Ref: full}, "[b]s!$D$3"},
		{token.Token{Kind: 4, N: 20000, S: "x", Ref: full}, "[b]x"},
		{token.Token{Kind: 4, N: 20000, S: "x", Ref: api.Ref{Sheet: "s", Row: 3, Col: 4}}, "x"},
		{token.Token{Kind: 5, N: 20000, S: "+", Ref: full}, "+"},
		{token.Token{Kind: 6, N: 8, S: "x", Ref: full}, "#LINK!"},
	} {
		prints(t, r.want, r.tok)
		prints(t, "-"+r.want+"+", op("-"), r.tok, op("+"))
	}
}

func TestPrintOfStrangers(t *testing.T) {
	// Kinds that there are not have no text; they are no Ops.
	for _, k := range []int{math.MinInt, -6, -1, 0, 7, 8, 1 << 32, 1<<32 + 1, math.MaxInt} {
		tok := token.Token{Kind: k, N: 1, S: "x", Ref: at(1, 1)}
		prints(t, "", tok)
		prints(t, "+-", op("+"), tok, op("-"))
		prints(t, "1  2", whole(1), tok, whole(2))
		prints(t, " ", tok, tok)
	}
	// Refs that are not good have no text.
	for _, r := range []api.Ref{{}, at(0, 1), at(1, 0), at(65, 1), at(1, 27), at(-1, -1), at(math.MaxInt, math.MinInt), {Book: "b", Row: 1, Col: 1}, {Sheet: "A1", Row: 1, Col: 1}, {Book: "TRUE", Sheet: "s", Row: 1, Col: 1}, {Sheet: "é", Row: 1, Col: 1}} {
		prints(t, "", ref(r))
		prints(t, "(-)", op("("), ref(r), op("-"), ref(r), op(")"))
	}
	// Nor have errors that there are not.
	for _, n := range []int{math.MinInt, -1, 0, 9, 10, 100, 1<<32 + 1, math.MaxInt} {
		prints(t, "", fault(n))
	}
	// Numbers that are not good are printed as num's Print has them.
	prints(t, "10000000.0001", number(api.MaxNum+1))
	prints(t, "922337203685477.5807", number(math.MaxInt))
	prints(t, "-922337203685477.5808", number(math.MinInt))
	// Words and Ops that there are not, and long texts, stand as they are.
	prints(t, "", word(""))
	prints(t, "A1", word("A1"))
	prints(t, "a b", word("a b"))
	prints(t, "[A1]\xff", wordOf("A1", "\xff"))
	prints(t, "[ ]", wordOf(" ", ""))
	prints(t, "", op(""))
	prints(t, "x\"<", op("x\""), op("<"))
	long := strings.Repeat("x", 1000)
	prints(t, `"`+long+`" `+long+" ["+long+"]"+long+"+", text(long), word(long), wordOf(long, long), op("+"))
	prints(t, strings.Repeat(`"`, 602), text(strings.Repeat(`"`, 300)))
}

// told: P9.2, of one token.
func told(x token.Token) string {
	switch {
	case x.Kind == 1:
		return decimal(x.N)
	case x.Kind == 2:
		return `"` + strings.Join(strings.Split(x.S, `"`), `""`) + `"`
	case x.Kind == 3 && x.Ref.Row > 0 && x.Ref.Row < 65 && x.Ref.Col > 0 && x.Ref.Col < 27 && (x.Ref.Book == "" && x.Ref.Sheet == "" || isName(x.Ref.Sheet) && (x.Ref.Book == "" || isName(x.Ref.Book))):
		return written(x.Ref)
	case x.Kind == 4 && x.Ref.Book != "":
		return "[" + x.Ref.Book + "]" + x.S
	case x.Kind == 4, x.Kind == 5:
		return x.S
	case x.Kind == 6 && x.N > 0 && x.N < 9:
		return faults()[x.N-1]
	}
	return ""
}

// decimal: chapter 5's text of a number.
func decimal(n int) string {
	s := strconv.Itoa(n)
	sign := s[:len(s)-len(strings.TrimPrefix(s, "-"))]
	s = strings.TrimPrefix(s, "-")
	s = strings.Repeat("0", max(0, 5-len(s))) + s
	return sign + strings.TrimSuffix(s[:len(s)-4]+"."+strings.TrimRight(s[len(s)-4:], "0"), ".")
}

// tellAll: P9.2.
func tellAll(l []token.Token) string {
	s := ""
	for i, x := range l {
		if i > 0 {
			a := l[i-1]
			if a.Kind != 5 && x.Kind != 5 || a.Kind == 5 && x.Kind == 5 && slices.Contains(needBlanks(), a.S+" "+x.S) {
				s += " "
			}
		}
		s += told(x)
	}
	return s
}

func TestPrintOfManyTokens(t *testing.T) {
	l := strangers()
	for _, p := range pieces() {
		l = append(l, p.tok)
	}
	for _, a := range l {
		prints(t, tellAll(list(a)), a)
		for _, b := range pieces() {
			prints(t, tellAll(list(a, b.tok)), a, b.tok)
			prints(t, tellAll(list(b.tok, a)), b.tok, a)
		}
	}
	r := rand.New(rand.NewSource(3))
	for range 50000 {
		var some []token.Token
		for range r.Intn(8) {
			if r.Intn(2) == 0 {
				some = append(some, op(ops()[r.Intn(17)]))
			} else {
				some = append(some, l[r.Intn(len(l))])
			}
		}
		prints(t, tellAll(some), some...)
	}
}
