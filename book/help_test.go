package book_test

import (
	"fmt"
	"slices"
	"strings"
	"testing"

	"octavo/addr"
	"octavo/api"
	"octavo/book"
	"octavo/value"
)

// same: has a call answered as it is to?
func same[T comparable](t *testing.T, got, want T, what string, args ...any) {
	if got != want {
		t.Helper() // here, since very many calls pass
		t.Fatalf("%s%v: %#v, want %#v", what, args, got, want)
	}
}

// made: a book of lines: "S: A1 text | B2 text" is a sheet with its cells, "S.tax := 1/5" and "tax := 1/5" are names, "[c]S!A1 text" is the cached value that the text types.
func made(lines ...string) api.Book {
	var b api.Book
	for _, s := range lines {
		switch {
		case strings.HasPrefix(s, "["):
			at, text, _ := strings.Cut(s, " ")
			b.Links = append(b.Links, link(at, text))
		case strings.Contains(s, " := "):
			n, text, _ := strings.Cut(s, " := ")
			b.Names = append(b.Names, name(n, text))
		default:
			n, l, _ := strings.Cut(s, ":")
			b.Sheets = append(b.Sheets, page(n, cells(strings.TrimPrefix(l, " "))...))
		}
	}
	return b
}

func page(name string, l ...api.Cell) api.Sheet { return api.Sheet{Name: name, Cells: l} }

// cells: of "A1 text | B2 text".
func cells(s string) []api.Cell {
	var l []api.Cell
	for _, x := range strings.Split(s, " | ") {
		if x != "" {
			at, text, _ := strings.Cut(x, " ")
			r := ref(at)
			l = append(l, api.Cell{Row: r.Row, Col: r.Col, Text: text})
		}
	}
	return l
}

func ref(s string) api.Ref {
	r, ok := addr.ParseRef(s)
	if !ok {
		panic(s)
	}
	return r
}

// name: of "tax" or "S.tax".
func name(s, text string) api.Name {
	scope, n, scoped := strings.Cut(s, ".")
	if !scoped {
		return api.Name{Name: s, Text: text}
	}
	return api.Name{Scope: scope, Name: n, Text: text}
}

// link: of a cell as "[c]S!A1".
func link(at, text string) api.Link {
	r := ref(at)
	return api.Link{Book: r.Book, Sheet: r.Sheet, Row: r.Row, Col: r.Col, Value: value.Typed(text)}
}

// Changes of each kind.

func set(at, text string) api.Op {
	r := ref(at)
	return api.Op{Kind: 1, Sheet: r.Sheet, Row: r.Row, Col: r.Col, Text: text}
}
func rows(s string, at, n int) api.Op { return api.Op{Kind: 2, Sheet: s, At: at, N: n} }
func cols(s string, at, n int) api.Op { return api.Op{Kind: 3, Sheet: s, At: at, N: n} }
func add(s string, at int, l string) api.Op {
	return api.Op{Kind: 4, Sheet: s, At: at, Cells: cells(l)}
}
func drop(s string) api.Op         { return api.Op{Kind: 5, Sheet: s} }
func move(s string, at int) api.Op { return api.Op{Kind: 6, Sheet: s, At: at} }
func define(n, text string) api.Op { return api.Op{Kind: 7, Name: name(n, text)} }
func cache(at, text string) api.Op { return api.Op{Kind: 8, Link: link(at, text)} }
func uncache(at string) api.Op     { return api.Op{Kind: 9, Link: link(at, "")} }
func outDrop(b, s string) api.Op   { return api.Op{Kind: 12, Book: b, Sheet: s} }
func outRows(b, s string, at, n int) api.Op {
	return api.Op{Kind: 10, Book: b, Sheet: s, At: at, N: n}
}
func outCols(b, s string, at, n int) api.Op {
	return api.Op{Kind: 11, Book: b, Sheet: s, At: at, N: n}
}

// shown: a book as a text, in which nil and empty lists are the same.
func shown(b api.Book) string {
	var s strings.Builder
	for _, x := range b.Sheets {
		fmt.Fprintf(&s, "sheet %q%s\n", x.Name, shownCells(x.Cells))
	}
	for _, x := range b.Names {
		fmt.Fprintf(&s, "name %q\n", x)
	}
	for _, x := range b.Links {
		fmt.Fprintf(&s, "link %#v\n", x)
	}
	return s.String()
}

// seen: a book among what a call was given, shown only where a test fails.
type seen api.Book

func (b seen) String() string { return shown(api.Book(b)) }

func shownCells(l []api.Cell) string {
	s := ""
	for _, c := range l {
		s += fmt.Sprintf(" %d,%d %q", c.Row, c.Col, c.Text)
	}
	return s
}

// shownOps: changes as a text, with all that they have.
func shownOps(l []api.Op) string {
	var s strings.Builder
	for _, o := range l {
		fmt.Fprintf(&s, "kind %d book %q sheet %q at %d n %d row %d col %d text %q name %q link %#v cells%s\n", o.Kind, o.Book, o.Sheet, o.At, o.N, o.Row, o.Col, o.Text, o.Name, o.Link, shownCells(o.Cells))
	}
	return s.String()
}

// alike: has a call answered this book?
func alike(t *testing.T, got, want api.Book, what string, args ...any) {
	if a, b := shown(got), shown(want); a != b {
		t.Helper()
		t.Fatalf("%s%v:\n%s, want\n%s", what, args, a, b)
	}
}

// alikeOps: has a call answered these changes?
func alikeOps(t *testing.T, got, want []api.Op, what string, args ...any) {
	if a, b := shownOps(got), shownOps(want); a != b {
		t.Helper()
		t.Fatalf("%s%v:\n%s, want\n%s", what, args, a, b)
	}
}

// told: what Apply and All answer.
type told struct {
	b    api.Book
	back []api.Op
	e    api.Errno
}

func asked(b api.Book, back []api.Op, e api.Errno) told { return told{b, back, e} }

// answers: a book, a way back, and no error.
func answers(t *testing.T, got told, want api.Book, back []api.Op, what string, args ...any) {
	t.Helper()
	same(t, got.e, api.OK, what, args...)
	alike(t, got.b, want, what, args...)
	alikeOps(t, got.back, back, what, args...)
}

// refuses: an error, and nothing beside it.
func refuses(t *testing.T, got told, want api.Errno, what string, args ...any) {
	t.Helper()
	same(t, got.e, want, what, args...)
	same(t, shown(got.b), "", what, args...)
	same(t, len(got.back), 0, what, args...)
}

// does: a change of book b makes want of a book, which Check takes, with that way back, and the way back leads there.
func does(t *testing.T, b api.Book, o api.Op, want api.Book, back ...api.Op) {
	t.Helper()
	was := shown(b)
	same(t, book.Check(b), api.OK, "Check of what is changed")
	got := asked(book.Apply(b, "b", o))
	answers(t, got, want, back, "Apply", o)
	same(t, book.Check(got.b), api.OK, "Check of what was changed", o)
	same(t, shown(b), was, "the book behind Apply", o)
	again, _, e := book.All(got.b, "b", got.back)
	same(t, e, api.OK, "All of the way back", o)
	alike(t, again, b, "All of the way back", o)
}

// fails: a change of book b is refused, and the book stays.
func fails(t *testing.T, b api.Book, o api.Op, want api.Errno) {
	t.Helper()
	was := shown(b)
	refuses(t, asked(book.Apply(b, "b", o)), want, "Apply", o)
	refuses(t, asked(book.All(b, "b", []api.Op{o})), want, "All", o)
	same(t, shown(b), was, "the book behind Apply", o)
}

// Names that may not be. (A scope may be empty.)
func noNames() []string {
	return []string{"", " ", "_", "1", "A1", "a1", "Z64", "A65", "A100", "TRUE", "false", "a b", " a", "a ", "a-b", "a!", "[b]a", "é", "\xff", "\x00", "abcdefghijklmnopq", strings.Repeat("a", 256)}
}

// padded: a formula of n bytes, its = too, of which s is the beginning.
func padded(s string, n int) string {
	return s + `&"` + strings.Repeat("x", n-len(s)-3) + `"`
}

// many: n cells that rise, from A1 on, row by row.
func many(n int) []api.Cell {
	l := make([]api.Cell, n)
	for i := range l {
		l[i] = api.Cell{Row: 1 + i/api.MaxCols, Col: 1 + i%api.MaxCols, Text: fmt.Sprint("n", i)}
	}
	return l
}

// manyNames: n names of a scope that rise.
func manyNames(scope string, n int) []api.Name {
	l := make([]api.Name, n)
	for i := range l {
		l[i] = api.Name{Scope: scope, Name: fmt.Sprintf("x_%03d", i), Text: fmt.Sprint(i)}
	}
	return l
}

// manyLinks: n links of book c's sheet S that rise, from A1 on, row by row.
func manyLinks(n int) []api.Link {
	l := make([]api.Link, n)
	for i := range l {
		l[i] = api.Link{Book: "c", Sheet: "S", Row: 1 + i/api.MaxCols, Col: 1 + i%api.MaxCols, Value: api.Value{Kind: api.Num, N: i}}
	}
	return l
}

// some: a book with all that a book may have.
func some() api.Book {
	return made(
		"S: A1 =A2+T!A1 | B1 x | C1 =SUM(A1:B4) | A3 =[b]S!A64 | Z64 end",
		"T: A1 =S!A3 | B2 =A1:A3 | C3 =[c]S!A3+[d]S!A3 | D4 =[c]T!B2",
		"U:",
		"all := SUM(S!A1:A9)", "own := A3", "S.own := A3+T!B2", "T.rate := S!A3+[c]S!A3", "T.tax := 1/5",
		"[c]S!A1 1", "[c]S!C1 x", "[c]S!A3", "[c]S!Z64 TRUE", "[c]T!B2 #N/A", "[d]S!A3 '7",
	)
}

// with: b, in which a call has changed something. b is not changed.
func with(b api.Book, change func(b *api.Book)) api.Book {
	var sheets []api.Sheet
	for _, s := range b.Sheets {
		sheets = append(sheets, page(s.Name, slices.Clone(s.Cells)...))
	}
	b = api.Book{Sheets: sheets, Names: slices.Clone(b.Names), Links: slices.Clone(b.Links)}
	change(&b)
	return b
}
