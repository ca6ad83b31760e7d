package token

import (
	"strings"

	"octavo/addr"
	"octavo/api"
	"octavo/num"
	"octavo/value"
)

const (
	quote     = `"`
	bookOpen  = "["
	bookClose = "]"
	sheetEnd  = "!"
)

// operators: those of two signs stand first, since one of them is not the Op that it begins with.
var operators = [...]string{"<>", "<=", ">=", "+", "-", "*", "/", "^", "&", "=", "<", ">", "%", "(", ")", ",", ":"}

// lexer is what is left of a text. Which of its methods cuts the next token off is told by the function in its field.
type lexer struct {
	left   string
	choose func(first rune) method
}

// method cuts off the token that is left first, and tells whether there was one.
type method func(*lexer) (Token, bool)

// bySign: the method for the token that a sign begins. Signs that begin none are left to the one that refuses what it does not know.
func bySign(first rune) method {
	switch {
	case digit(first):
		return (*lexer).number
	case first == '"':
		return (*lexer).text
	case first == '#':
		return (*lexer).fault
	case first == '[', first == '$', letter(first):
		return (*lexer).name
	}
	return (*lexer).operator
}

// more: is anything left but blanks?
func (x *lexer) more() bool {
	x.take(blank)
	return x.left != ""
}

// next: the token that is left first, cut off.
func (x *lexer) next() (Token, bool) {
	cut := x.choose(rune(x.left[0]))
	return cut(x)
}

// take: as many runes as are in, cut off.
func (x *lexer) take(in func(rune) bool) string {
	end := len(x.left)
	for i, c := range x.left {
		if !in(c) {
			end = i
			break
		}
	}
	taken := x.left[:end]
	x.left = x.left[end:]
	return taken
}

// skip: is s left first? It is cut off, if so.
func (x *lexer) skip(s string) bool {
	rest, ok := strings.CutPrefix(x.left, s)
	x.left = rest
	return ok
}

func (x *lexer) number() (Token, bool) {
	n, ok := num.Parse(x.take(digitOrPoint))
	return Token{Kind: Num, N: n}, ok
}

// text: what stands between two ", pieced together at those that are doubled.
func (x *lexer) text() (Token, bool) {
	var s strings.Builder
	x.skip(quote)
	for {
		s.WriteString(x.take(noQuote))
		if !x.skip(quote) {
			return Token{}, false
		}
		if !x.skip(quote) {
			return Token{Kind: Str, S: s.String()}, true
		}
		s.WriteString(quote)
	}
}

// fault: an error, as a cell shows it.
func (x *lexer) fault() (Token, bool) {
	for n := api.BadDiv; n <= api.BadLink; n++ {
		if x.skip(value.Text(value.Bad(n))) {
			return Token{Kind: Bad, N: n}, true
		}
	}
	return Token{}, false
}

// name: a ref or a word.
func (x *lexer) name() (Token, bool) {
	from := x.left
	book := x.book()
	run := x.take(inRun)
	if x.skip(sheetEnd) {
		x.take(inRun)
		r, ok := addr.ParseRef(from[:len(from)-len(x.left)])
		return Token{Kind: Ref, Ref: r}, ok
	}
	if r, ok := addr.ParseCell(run); ok && book == "" {
		return Token{Kind: Ref, Ref: r}, true
	}
	good := addr.GoodName(run) || book == "" && truth(run)
	return Token{Kind: Word, S: run, Ref: api.Ref{Book: book}}, good
}

// book: the name of the book that stands first, cut off with its brackets, or nothing. A bracket that begins none stays, and no run begins with it.
func (x *lexer) book() string {
	inside, opened := strings.CutPrefix(x.left, bookOpen)
	name, rest, closed := strings.Cut(inside, bookClose)
	if !opened || !closed || !addr.GoodName(name) {
		return ""
	}
	x.left = rest
	return name
}

func (x *lexer) operator() (Token, bool) {
	for _, s := range operators {
		if x.skip(s) {
			return Token{Kind: Op, S: s}, true
		}
	}
	return Token{}, false
}

// truth: would s be typed as TRUE or FALSE?
func truth(s string) bool {
	return value.Typed(s).Kind == api.Bool
}

func blank(c rune) bool {
	return c == ' ' || c == '\t'
}

func digit(c rune) bool {
	return c >= '0' && c <= '9'
}

func digitOrPoint(c rune) bool {
	return digit(c) || c == '.'
}

// letter: is c one of the 26, in either size?
func letter(c rune) bool {
	return c >= 'A' && c <= 'Z' || c >= 'a' && c <= 'z'
}

func noQuote(c rune) bool {
	return c != '"'
}

// inRun: may c stand in a name or a cell?
func inRun(c rune) bool {
	return letter(c) || digit(c) || c == '_' || c == '$'
}
