package token_test

import (
	"slices"
	"strings"
	"testing"

	"octavo/api"
	"octavo/token"
)

// P9.1

func TestKinds(t *testing.T) {
	same(t, [6]int{token.Num, token.Str, token.Ref, token.Word, token.Op, token.Bad}, [6]int{1, 2, 3, 4, 5, 6}, "the kinds")
}

func TestLexOfTheExamples(t *testing.T) {
	lexes(t, "A1+2", cell(1, 1), op("+"), whole(2))
	lexes(t, `"a""b"`, text(`a"b`))
	refuses(t, "A100", api.ErrForm)
	lexes(t, "[b]tax", wordOf("b", "tax"))
}

func TestLexOfFormulas(t *testing.T) {
	lexes(t, "SUM(A1:$B$2,3.5)*-2%", word("SUM"), op("("), cell(1, 1), op(":"), ref(fixed(at(2, 2), true, true)), op(","), number(35000), op(")"), op("*"), op("-"), whole(2), op("%"))
	lexes(t, `IF(a1<>"",[Acme]Jan!b7&"x",#N/A)`, word("IF"), op("("), cell(1, 1), op("<>"), text(""), op(","), cellOf("Acme", "Jan", at(7, 2)), op("&"), text("x"), op(","), fault(6), op(")"))
	lexes(t, " tax ^ TRUE >= [b]rate / Jan!C3 ", word("tax"), op("^"), word("TRUE"), op(">="), wordOf("b", "rate"), op("/"), cellOf("", "Jan", at(3, 3)))
	// Which tokens may stand together is not looked at here.
	lexes(t, ")(,,::%%", op(")"), op("("), op(","), op(","), op(":"), op(":"), op("%"), op("%"))
}

// TestLexOfLongTexts: the length is looked at ahead of all else.
func TestLexOfLongTexts(t *testing.T) {
	fill := func(begin, each, end string, n int) string {
		return begin + strings.Repeat(each, n-len(begin)-len(end)) + end
	}
	for _, n := range []int{api.MaxText - 1, api.MaxText} {
		lexes(t, fill(`"`, "x", `"`, n), text(strings.Repeat("x", n-2)))
		lexes(t, fill("", " ", "", n))
		lexes(t, fill("A1", " ", "tax", n), cell(1, 1), word("tax"))
		lexes(t, fill("", "+", "", n), slices.Repeat(list(op("+")), n)...)
		lexes(t, fill("\"", "\xff", "\"", n), text(strings.Repeat("\xff", n-2)))
		for _, s := range []string{fill("", "+", "!", n), fill("!", "+", "", n), fill(`"`, "x", "", n), fill("", "1", "", n), fill("", "a", "", n), fill("[", "a", "", n), fill("", "é"[:1], "", n)} {
			refuses(t, s, api.ErrForm)
		}
	}
	for _, n := range []int{api.MaxText + 1, api.MaxText + 2, 512, 513, 1 << 16, 1<<16 + 1} {
		for _, s := range []string{fill(`"`, "x", `"`, n), fill("", " ", "", n), fill("A1", " ", "tax", n), fill("", "+", "", n), fill("", "+", "!", n), fill("!", "+", "", n), fill(`"`, "x", "", n), fill("", "1", "", n), fill("", "a", "", n), fill("[", "a", "", n), fill("", "\xff", "", n)} {
			refuses(t, s, api.ErrText)
		}
	}
	// Bytes are counted, not characters.
	lexes(t, `"`+strings.Repeat("é", 126)+`"`, text(strings.Repeat("é", 126)))
	refuses(t, `"`+strings.Repeat("é", 127)+`"`, api.ErrText)
}

func TestLexOfBlanks(t *testing.T) {
	for _, s := range []string{"", " ", "\t", "   ", "\t\t", " \t ", "\t \t"} {
		lexes(t, s)
		for _, more := range []string{"", " ", "\t", " \t"} {
			lexes(t, s+"A1"+more+"+"+s+"2"+more, cell(1, 1), op("+"), whole(2))
			lexes(t, s+"A1 "+more+"tax"+s, cell(1, 1), word("tax"))
			lexes(t, s+"1 "+more+"2"+s, whole(1), whole(2))
			lexes(t, s+`"a" `+more+`"b"`+s, text("a"), text("b"))
		}
	}
	// Others are no blanks; within a text all are as they are.
	for _, c := range []string{"\n", "\r", "\v", "\f", "\x00", "\u00a0", "\u2003", "\u3000", "\u0085", "\xa0", "\x85"} {
		for _, s := range []string{c, c + "1", "1" + c, "1" + c + "+2", "1 " + c + " 2"} {
			refuses(t, s, api.ErrForm)
		}
		lexes(t, `"`+c+`"`, text(c))
	}
	lexes(t, "\" a\tb \"", text(" a\tb "))
	// A blank within a token makes it two, or none.
	lexes(t, "1 5", whole(1), whole(5))
	lexes(t, "ta x", word("ta"), word("x"))
	lexes(t, "A1 b", cell(1, 1), word("b"))
	lexes(t, "A 1", word("A"), whole(1))
	for _, s := range []string{"1. 5", "1 .5", "# N/A", "#N /A", "$ A1", "A$ 1", "$A $1", "Jan! A1", "Jan !A1", "[ b]tax", "[b ]tax", "[b] tax", "[ b ]s!A1", "[b] s!A1", "[b]s !A1", "[b]s! A1"} {
		refuses(t, s, api.ErrForm)
	}
}

func TestLexOfNumbers(t *testing.T) {
	for _, r := range []struct {
		text string
		n    int
	}{
		{"0", 0}, {"1", 10000}, {"9", 90000}, {"10", 100000}, {"1234567", 12345670000}, {"00", 0}, {"007", 70000}, {"000000000001", 10000}, {"000010000000", api.MaxNum},
		{"1.5", 15000}, {"0.0", 0}, {"0.5", 5000}, {"0.0001", 1}, {"1.2345", 12345}, {"1.50", 15000}, {"1.5000", 15000}, {"00.25", 2500}, {"12.34", 123400}, {"000000000001.0001", 10001},
		{"10000000", api.MaxNum}, {"10000000.0", api.MaxNum}, {"10000000.0000", api.MaxNum}, {"9999999.9999", api.MaxNum - 1},
	} {
		lexes(t, r.text, number(r.n))
		lexes(t, "-"+r.text, op("-"), number(r.n))
		lexes(t, r.text+"%"+r.text, number(r.n), op("%"), number(r.n))
	}
}

func TestLexRefusesNumbers(t *testing.T) {
	for _, s := range []string{
		// A point at the end, ahead, twice.
		"1.", "0.", "12.", "1..", "1..2", "1.2.", "1.2.3", "1.2.3.4", "1...2", ".", "..", ".5", ".5.", "..5", "0..5",
		// Too many places, ahead of the point and behind it.
		"1.23456", "0.00001", "1.00000", "0.12345678", "1234567890123", "0000000000000", "0000000000001", "0000000000001.5", strings.Repeat("9", 253), "0." + strings.Repeat("0", 251),
		// Beyond num's ends.
		"10000000.0001", "10000000.1", "10000001", "99999999", "100000000", "999999999999", "999999999999.9999", "000010000001",
	} {
		refuses(t, s, api.ErrForm)
		refuses(t, s+"+1", api.ErrForm)
		refuses(t, "1+"+s, api.ErrForm)
		refuses(t, s+" ", api.ErrForm)
	}
	refuses(t, "1.+2", api.ErrForm)
	refuses(t, "1.A1", api.ErrForm)
	refuses(t, "1,5.", api.ErrForm)
	// What no digit or point is ends it.
	lexes(t, "1e5", whole(1), cell(5, 5))
	lexes(t, "1,5", whole(1), op(","), whole(5))
	lexes(t, "0x10", whole(0), cell(10, 24))
	lexes(t, "5a", whole(5), word("a"))
	refuses(t, "1_000", api.ErrForm)
	refuses(t, "1٣", api.ErrForm)
}

func TestLexOfTexts(t *testing.T) {
	for _, r := range []struct{ typed, want string }{
		{`""`, ""}, {`"a"`, "a"}, {`" "`, " "}, {`"abc def"`, "abc def"}, {`"1"`, "1"}, {`"TRUE"`, "TRUE"}, {`"#N/A"`, "#N/A"}, {`"A1+2"`, "A1+2"}, {`"'"`, "'"}, {`"\"`, `\`}, {`"["`, "["},
		// Doubled ones, alone, first, between and last.
		{`""""`, `"`}, {`""""""`, `""`}, {`"""a"`, `"a`}, {`"a"""`, `a"`}, {`"a""b"`, `a"b`}, {`"""a"""`, `"a"`}, {`"a""""b"`, `a""b`}, {`"""a""b"""`, `"a"b"`}, {`" "" "`, ` " `}, {`"é""é"`, `é"é`}, {"\"\xff\"\"\xff\"", "\xff\"\xff"},
		// Any bytes.
		{`"é"`, "é"}, {`"日本😀"`, "日本😀"}, {"\"\xff\"", "\xff"}, {"\"\x80\xc3\"", "\x80\xc3"}, {"\"\xe2\x82\"", "\xe2\x82"}, {"\"\xf0\x9f\x98\"", "\xf0\x9f\x98"}, {"\"\x00\n\r\t\"", "\x00\n\r\t"}, {"\"\ufffd\"", "\ufffd"}, {"\"“”\"", "“”"},
	} {
		lexes(t, r.typed, text(r.want))
		lexes(t, r.typed+"&"+r.typed, text(r.want), op("&"), text(r.want))
		lexes(t, r.typed+" "+r.typed, text(r.want), text(r.want))
		// Directly behind each other the two " between are a doubled one.
		lexes(t, r.typed+r.typed, text(r.want+`"`+r.want))
		refuses(t, r.typed+`"`, api.ErrForm)
	}
	for b := range 256 {
		if c := string([]byte{byte(b)}); c != `"` {
			lexes(t, `"`+c+`"`, text(c))
			lexes(t, `"a`+c+`""`+c+`b"1`, text("a"+c+`"`+c+"b"), whole(1))
		}
	}
}

func TestLexRefusesTexts(t *testing.T) {
	for _, s := range []string{`"`, `"a`, `"a b`, `"""`, `"""""`, `"a""`, `"""a`, `"""a""`, `"a""b`, `"a" "`, `"a" "b`, `1+"`, `1+"a`, `a"`, `a"b`, `""a"`, `"\"a\"`, "\"\xff", "\"é", "'a'", "“a”"} {
		refuses(t, s, api.ErrForm)
	}
}

func TestLexOfFaults(t *testing.T) {
	for i, s := range faults() {
		n := i + 1
		lexes(t, s, fault(n))
		lexes(t, s+" ", fault(n))
		lexes(t, s+s, fault(n), fault(n))
		lexes(t, s+"+"+s, fault(n), op("+"), fault(n))
		// What stands behind it is a token of its own, or none.
		lexes(t, s+"1", fault(n), whole(1))
		lexes(t, s+"A1", fault(n), cell(1, 1))
		lexes(t, s+"x", fault(n), word("x"))
		lexes(t, s+`"a"`, fault(n), text("a"))
		for _, wrong := range []string{s + "!", s + "?", s + "#", s + "_", "#" + s, s + "A1!"} {
			refuses(t, wrong, api.ErrForm)
		}
		// Parts of it, and other sizes of its letters.
		for end := 1; end < len(s); end++ {
			refuses(t, s[:end], api.ErrForm)
			refuses(t, s[:end]+" "+s[end:], api.ErrForm)
		}
		for _, other := range sizes(s[1:]) {
			if "#"+other != s {
				refuses(t, "#"+other, api.ErrForm)
			}
		}
		lexes(t, `"`+s+`"`, text(s))
	}
	for _, s := range []string{"#", "##", "# ", "#A", "#1", "#NULL!", "#N", "#N/", "#N/B", "#NA", "#DIV/0", "#DIV/1!", "#DIV0!", "#VALUE", "#VALUE?", "#REF", "#REF?", "#NAME", "#NAME!", "#NUM", "#NUM?", "#CYCLE", "#LINK", "#OK!", "#1!", "#8", "#é", "#\xff", "＃N/A"} {
		refuses(t, s, api.ErrForm)
	}
}

func TestLexOfCells(t *testing.T) {
	for row := 1; row <= 64; row++ {
		for col := 1; col <= 26; col++ {
			for fix := range 4 {
				r := fixed(at(row, col), fix&1 == 1, fix&2 == 2)
				s := written(r)
				lexes(t, s, ref(r))
				lexes(t, strings.ToLower(s), ref(r))
				lexes(t, "Jan!"+s, cellOf("", "Jan", r))
				lexes(t, "[Acme]Jan!"+strings.ToLower(s), cellOf("Acme", "Jan", r))
				refuses(t, "[Acme]"+s, api.ErrForm)
			}
		}
	}
}

func TestLexRefusesCells(t *testing.T) {
	for _, c := range []string{"A0", "A00", "A01", "A064", "A65", "a65", "Z65", "A99", "A100", "z640", "A999999999999999", "$A", "A$", "$A$", "$", "$$", "$1", "$$A1", "A$$1", "A1$", "$A$1$", "A1$1", "$A$0", "$A65", "A$65", "$A$01", "$tax", "tax$", "ta$x", "$AA1", "AA$1", "$TRUE", "TRUE$", "$_", "$a_1"} {
		for _, s := range []string{c, c + "+1", "1+" + c, "Jan!" + c, "[Acme]" + c, "[Acme]Jan!" + c, c + "!A1", "[Acme]" + c + "!A1"} {
			refuses(t, s, api.ErrForm)
		}
	}
	// Letters and digits behind a cell belong to its run.
	lexes(t, "A1b", word("A1b"))
	lexes(t, "A1_", word("A1_"))
	lexes(t, "AA1", word("AA1"))
	lexes(t, "A1A1", word("A1A1"))
	lexes(t, "R1C1", word("R1C1"))
}

func TestLexOfWords(t *testing.T) {
	for _, s := range goodNames() {
		lexes(t, s, word(s))
		lexes(t, s+"(", word(s), op("("))
		lexes(t, "["+s+"]"+s, wordOf(s, s))
		lexes(t, "[b]"+s+" +"+s, wordOf("b", s), op("+"), word(s))
		lexes(t, s+"!c3", cellOf("", s, at(3, 3)))
		lexes(t, "["+s+"]"+s+"!$c3", cellOf(s, s, fixed(at(3, 3), true, false)))
	}
}

func TestLexRefusesWords(t *testing.T) {
	for _, s := range badNames() {
		refuses(t, "["+s+"]tax", api.ErrForm)
		refuses(t, "["+s+"]Jan!A1", api.ErrForm)
		if strings.Trim(s, runSigns) != "" {
			continue // more than one token might begin there
		}
		refuses(t, "[b]"+s, api.ErrForm)
		refuses(t, "[b]"+s+"!A1", api.ErrForm)
		if s == "" || !strings.Contains("0123456789", s[:1]) {
			refuses(t, s+"!A1", api.ErrForm)
		}
	}
	for _, s := range []string{"_", "_a", "_1", "abcdefghijklmnopq", "a________________", "A1234567890123456", "TRUEFALSETRUEFALSE", strings.Repeat("a", 252), "a$b", "$ab", "ab$", "a$1b", "é", "aé", "éa", "ａ", "a@", "a.b", "a?", "a\xff", "a\x00", "a'b", "a!b"} {
		refuses(t, s, api.ErrForm)
		refuses(t, "1+"+s, api.ErrForm)
		refuses(t, "[b]"+s, api.ErrForm)
	}
}

func TestLexOfWordsOfEachLength(t *testing.T) {
	for n := 1; n <= 40; n++ {
		for _, s := range []string{strings.Repeat("a", n), strings.Repeat("Z", n), "a" + strings.Repeat("_", n-1)} {
			if n <= 16 {
				lexes(t, s, word(s))
				lexes(t, "[b]"+s, wordOf("b", s))
				lexes(t, "["+s+"]b", wordOf(s, "b"))
			} else {
				refuses(t, s, api.ErrForm)
				refuses(t, "[b]"+s, api.ErrForm)
				refuses(t, "["+s+"]b", api.ErrForm)
			}
		}
	}
}

func TestLexOfTruths(t *testing.T) {
	for _, s := range append(sizes("TRUE"), sizes("FALSE")...) {
		lexes(t, s, word(s)) // with the letters as they are
		lexes(t, s+"+"+s+"()", word(s), op("+"), word(s), op("("), op(")"))
		for _, wrong := range []string{"[b]" + s, "[" + s + "]tax", "[" + s + "]" + s, s + "!A1", "[b]" + s + "!A1", "[" + s + "]Jan!A1", "Jan!" + s, "[b]Jan!" + s, s + "!", s + "$", "$" + s} {
			refuses(t, wrong, api.ErrForm)
		}
		for _, more := range []string{s + "1", s + "_", s + "E", "x" + s, s + s} {
			lexes(t, more, word(more))
			lexes(t, "[b]"+more, wordOf("b", more))
		}
	}
	refuses(t, "falſe", api.ErrForm)
}

func TestLexOfBooks(t *testing.T) {
	lexes(t, "[b]tax", wordOf("b", "tax"))
	lexes(t, "[b]A", wordOf("b", "A"))
	lexes(t, "[b]SUM(", wordOf("b", "SUM"), op("("))
	lexes(t, "[a]b[c]d", wordOf("a", "b"), wordOf("c", "d"))
	lexes(t, "tax[b]tax", word("tax"), wordOf("b", "tax"))
	lexes(t, "A1[b]s!A1", cell(1, 1), cellOf("b", "s", at(1, 1)))
	lexes(t, "s!A1[b]x", cellOf("", "s", at(1, 1)), wordOf("b", "x"))
	lexes(t, "[a]s!A1:[a]s!B2", cellOf("a", "s", at(1, 1)), op(":"), cellOf("a", "s", at(2, 2)))
	lexes(t, "[A]a!A1", cellOf("A", "a", at(1, 1)))
	lexes(t, "A!A1", cellOf("", "A", at(1, 1)))
	for _, s := range []string{
		// Brackets that are not closed, not opened, empty, twice, or with nothing behind them.
		"[", "]", "[]", "[b", "[b]", "[b] ", "[b]+1", "[b](", "b]", "b]tax", "]tax", "[]tax", "[]s!A1", "[[b]tax", "[b]]tax", "[[b]]tax", "[a][b]tax", "[a][b]s!A1", "[b tax", "[btax", "[b s!A1", "[bs!A1", "[b+c]tax", "[b,c]tax", "[b", "[b!A1", "[b!A1]", "[b!]tax", "[!b]tax", "[b]\"a\"", "[\"b\"]tax", "[b]#REF!", "[b][", "[b]1", "[b]12", "[b]1x", "[b]_x", "[b]$x", "[b].", "[é]tax", "[b\xff]tax", "(b)tax]", "{b}tax", "1]", "A1]", "[A1]", "[1]", "[1]tax",
		// ! with nothing ahead, nothing behind, twice, or with what is no cell behind it.
		"!", "!!", "!A1", "!tax", "Jan!", "Jan!+1", "Jan! ", "Jan!!A1", "Jan!!", "Jan!A1!", "Jan!A1!B2", "!Jan!A1", "[b]!", "[b]!A1", "[b]s!", "[b]s!!A1", "[b]s!A1!", "![b]s!A1", "[b]!s!A1", "s![b]A1", "Jan!tax", "[b]Jan!tax", "Jan!TRUE", "Jan!1", "Jan!\"a\"", "Jan!#REF!", "Jan!(A1)", "A1!A1", "A65!A1", "[b]A1!A1", "1!A1", "Jan!A65", "Jan!A1b", "'Jan'!A1", "\"Jan\"!A1", "#REF!!A1", "J!an!A1",
	} {
		refuses(t, s, api.ErrForm)
		refuses(t, "1+"+s, api.ErrForm)
	}
	// An area's second cell is a token of its own.
	lexes(t, "Jan!A1:B2", cellOf("", "Jan", at(1, 1)), op(":"), cell(2, 2))
	// What a number begins is no run.
	lexes(t, "1Jan!A1", whole(1), cellOf("", "Jan", at(1, 1)))
}

func TestLexOfOps(t *testing.T) {
	same(t, len(ops()), 17, "ops")
	for _, a := range ops() {
		lexes(t, a, op(a))
		lexes(t, " "+a+"\t", op(a))
		lexes(t, "A1"+a+"B2", cell(1, 1), op(a), cell(2, 2))
		for _, b := range ops() {
			lexes(t, a+" "+b, op(a), op(b))
			lexes(t, a+"\t"+b, op(a), op(b))
		}
	}
	lexes(t, "<>", op("<>"))
	lexes(t, "<=", op("<="))
	lexes(t, ">=", op(">="))
	lexes(t, "< >", op("<"), op(">"))
	lexes(t, "< =", op("<"), op("="))
	lexes(t, "> =", op(">"), op("="))
	lexes(t, "><", op(">"), op("<"))
	lexes(t, "=<", op("="), op("<"))
	lexes(t, "=>", op("="), op(">"))
	lexes(t, "==", op("="), op("="))
	lexes(t, "<<", op("<"), op("<"))
	lexes(t, ">>", op(">"), op(">"))
	lexes(t, "<>=", op("<>"), op("="))
	lexes(t, "< >=", op("<"), op(">="))
	lexes(t, "<=>", op("<="), op(">"))
	lexes(t, "<<>", op("<"), op("<>"))
	lexes(t, ">>=", op(">"), op(">="))
	lexes(t, "><=", op(">"), op("<="))
	lexes(t, "<>>=<=", op("<>"), op(">="), op("<="))
	lexes(t, "===", op("="), op("="), op("="))
	lexes(t, "--", op("-"), op("-"))
}

// TestLexOfEachByte: alone, with tokens about it, and within a text.
func TestLexOfEachByte(t *testing.T) {
	for b := range 256 {
		c := string([]byte{byte(b)})
		switch {
		case c == " " || c == "\t":
			lexes(t, c)
		case c >= "0" && c <= "9":
			lexes(t, c, whole(b-'0'))
		case c >= "A" && c <= "Z" || c >= "a" && c <= "z":
			lexes(t, c, word(c))
		case strings.Contains("+-*/^&=<>%(),:", c):
			lexes(t, c, op(c))
		default:
			refuses(t, c, api.ErrForm)
			for _, s := range []string{" " + c, c + " ", "+" + c, c + "+", ")" + c + "(", "% " + c + " -"} {
				if c != `"` || strings.Count(s, c) == 1 {
					refuses(t, s, api.ErrForm)
				}
			}
		}
	}
}

// TestLexRefusesAtAnyPlace: first, between and last.
func TestLexRefusesAtAnyPlace(t *testing.T) {
	for _, w := range wrong() {
		refuses(t, w, api.ErrForm)
		for _, p := range pieces() {
			if strings.Contains(w, `"`) && p.tok.Kind == token.Str {
				continue // a text that is not closed would be
			}
			for _, s := range []string{w + " " + p.text, p.text + " " + w, p.text + " " + w + " " + p.text} {
				refuses(t, s, api.ErrForm)
			}
		}
	}
}

// TestLexOfTokensTogether: two of all kinds, with a blank between and, where they are not read as one, without.
func TestLexOfTokensTogether(t *testing.T) {
	for _, a := range pieces() {
		lexes(t, a.text, a.tok)
		for _, b := range pieces() {
			lexes(t, a.text+" "+b.text, a.tok, b.tok)
			lexes(t, "\t"+a.text+" \t "+b.text+" ", a.tok, b.tok)
			if !joins(a, b) {
				lexes(t, a.text+b.text, a.tok, b.tok)
			}
		}
	}
}

// joins: does the second one's first sign belong to the first one?
func joins(a, b piece) bool {
	first := b.text[:1]
	switch a.tok.Kind {
	case token.Num:
		return strings.Contains("0123456789.", first)
	case token.Str:
		return first == `"`
	case token.Ref, token.Word:
		return b.tok.Kind == token.Num || (b.tok.Kind == token.Ref || b.tok.Kind == token.Word) && first != "["
	case token.Op:
		return strings.Contains("<> <= >=", a.text+first)
	}
	return false
}

func TestLexOfManyTexts(t *testing.T) {
	l := append(some(300000, 1), goods(50000, 2)...)
	l = append(l, short(6, "<", ">", "=", " ", "1")...)
	l = append(l, short(6, `"`, "a", " ", "\xff")...)
	l = append(l, short(6, "1", ".", "0", "A", "$")...)
	l = append(l, short(7, "[", "]", "a", "!", "1")...)
	for _, s := range []string{"A1+2", "12.5", `"a""b"`, "#DIV/0! ", "#N/A", "[b]tax", "[Acme]Jan!$B$7", "Jan!Z64", "TRUE", "a1<=b2", "abcdefghijklmnop", "SUM(A1:B2,3)%"} {
		l = append(l, near(s)...)
	}
	taken := 0
	for _, s := range l {
		want, wantError := cut(s)
		got, e := token.Lex(s)
		if e != wantError || !slices.Equal(got, want) {
			t.Fatalf("Lex(%q): %#v, %d, want %#v, %d", s, got, e, want, wantError)
		}
		if e == api.OK && len(got) > 1 {
			taken++
		}
	}
	if taken < 50000 || taken > len(l)-50000 {
		t.Fatalf("%d of %d are tokens", taken, len(l))
	}
}
