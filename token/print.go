package token

import (
	"strings"

	"octavo/addr"
	"octavo/api"
	"octavo/num"
	"octavo/value"
)

// Print: their text.
func Print(l []Token) string {
	var s strings.Builder
	for i, t := range l {
		if i > 0 && apart(l[i-1], t) {
			s.WriteString(" ")
		}
		s.WriteString(printToken(t))
	}
	return s.String()
}

// apart: does a blank keep two tokens from being read as others?
func apart(a, b Token) bool {
	if a.Kind == Op && b.Kind == Op {
		return opsApart(a.S, b.S)
	}
	return a.Kind != Op && b.Kind != Op
}

// opsApart: would the second Op, or its first sign, be read as the first one's second sign? The < and >= are among these, since <>= is read as <> and =.
func opsApart(a, b string) bool {
	switch a {
	case "<":
		return b == "=" || b == ">" || b == ">="
	case ">":
		return b == "="
	}
	return false
}

// printToken: a token's text, and none of a kind that there is not.
func printToken(t Token) string {
	switch t.Kind {
	case Num:
		return num.Print(t.N)
	case Str:
		return quote + strings.ReplaceAll(t.S, quote, quote+quote) + quote
	case Ref:
		return addr.Print(t.Ref)
	case Word:
		return printBook(t.Ref.Book) + t.S
	case Op:
		return t.S
	case Bad:
		return value.Text(api.Value{Kind: api.Bad, N: t.N})
	}
	return ""
}

// printBook: what stands ahead of a word of a book.
func printBook(book string) string {
	if book == "" {
		return ""
	}
	return bookOpen + book + bookClose
}
