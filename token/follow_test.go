package token_test

import (
	"slices"
	"strings"
	"testing"

	"octavo/api"
	"octavo/token"
)

// P9.3

// again: is what Lex tells of s told of its text too? It tells whether there was anything to hold against it.
func again(t *testing.T, s string) bool {
	l, e := token.Lex(s)
	if e != api.OK {
		return false
	}
	printed := token.Print(l)
	if len(printed) > api.MaxText {
		return false
	}
	got, e := token.Lex(printed)
	if e != api.OK || !slices.Equal(got, l) {
		t.Helper()
		t.Fatalf("Lex(%q) of Lex(%q): %#v, %d, want %#v", printed, s, got, e, l)
	}
	return true
}

func TestLexOfPrintIsTheTokens(t *testing.T) {
	l := append(some(300000, 4), goods(100000, 5)...)
	l = append(l, short(6, "<", ">", "=", " ", "1")...)
	l = append(l, short(6, `"`, "a", " ", "\xff")...)
	for _, a := range pieces() {
		l = append(l, a.text)
		for _, b := range pieces() {
			l = append(l, a.text+b.text, a.text+" "+b.text, "("+a.text+"\t"+b.text+")")
		}
	}
	held := 0
	for _, s := range l {
		if again(t, s) {
			held++
		}
	}
	if held < 150000 {
		t.Fatalf("only %d of %d are tokens", held, len(l))
	}
}

// TestLexOfPrintOfOps: all that stand behind each other with a blank between, two and three of them.
func TestLexOfPrintOfOps(t *testing.T) {
	for _, a := range ops() {
		for _, b := range ops() {
			same(t, again(t, a+" "+b), true, "again", a, b)
			for _, c := range ops() {
				same(t, again(t, a+" "+b+" "+c), true, "again", a, b, c)
			}
		}
	}
}

// TestLexOfPrintOfLongTexts: the blanks that Print puts between may make a text too long.
func TestLexOfPrintOfLongTexts(t *testing.T) {
	s := strings.Repeat(`1"a"`, 63) + "123"
	l, e := token.Lex(s)
	same(t, e, api.OK, "Lex", s)
	same(t, len(token.Print(l)), 255+126, "the length of Print of", s)
	_, e = token.Lex(token.Print(l))
	same(t, e, api.ErrText, "Lex of Print of", s)
	// At the end of what a text may have it is told again.
	for _, s := range []string{`"` + strings.Repeat("x", 253) + `"`, `"` + strings.Repeat(`""`, 126) + `"`, strings.Repeat("+", 255), strings.Repeat("<>=", 85), strings.Repeat("[b]x+", 51)} {
		same(t, again(t, s), true, "again", s)
	}
}

// TestPrintOfLexIsThatText: of a text that Print told, Print tells that text.
func TestPrintOfLexIsThatText(t *testing.T) {
	for _, s := range append(goods(50000, 6), some(100000, 7)...) {
		l, e := token.Lex(s)
		if printed := token.Print(l); e == api.OK && len(printed) <= api.MaxText {
			l, _ = token.Lex(printed)
			same(t, token.Print(l), printed, "Print of Lex", printed)
		}
	}
}
