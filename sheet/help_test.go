package sheet_test

import (
	"fmt"
	"math"
	"math/rand"
	"slices"
	"strings"
	"testing"

	"octavo/api"
	"octavo/sheet"
)

// same: has a call answered as it is to?
func same[T comparable](t *testing.T, got, want T, what string, args ...any) {
	if got != want {
		t.Helper() // here, since very many calls pass
		t.Fatalf("%s%#v: %#v, want %#v", what, args, got, want)
	}
}

// shown: a book as a text, in which nil and empty lists are the same.
func shown(b api.Book) string {
	var s strings.Builder
	for _, x := range b.Sheets {
		fmt.Fprintf(&s, "sheet %q\n", x.Name)
		for _, c := range x.Cells {
			fmt.Fprintf(&s, "%d %d %q\n", c.Row, c.Col, c.Text)
		}
	}
	for _, x := range b.Names {
		fmt.Fprintf(&s, "name %q %q %q\n", x.Scope, x.Name, x.Text)
	}
	for _, x := range b.Links {
		fmt.Fprintf(&s, "link %#v\n", x)
	}
	return s.String()
}

// alike: has a call answered this book?
func alike(t *testing.T, got, want api.Book, what string, args ...any) {
	if a, b := shown(got), shown(want); a != b {
		t.Helper()
		t.Fatalf("%s%#v:\n%s, want\n%s", what, args, a, b)
	}
}

// alikeCells: has a call answered these cells?
func alikeCells(t *testing.T, got, want []api.Cell, what string, args ...any) {
	if !slices.Equal(got, want) {
		t.Helper()
		t.Fatalf("%s%#v: %v, want %v", what, args, got, want)
	}
}

// told: what a call answers that may tell a book.
type told struct {
	b api.Book
	e api.Errno
}

func asked(b api.Book, e api.Errno) told {
	return told{b, e}
}

// answers: a book, and no error.
func answers(t *testing.T, got told, want api.Book, what string, args ...any) {
	t.Helper()
	same(t, got.e, api.OK, what, args...)
	alike(t, got.b, want, what, args...)
}

// refuses: an error, and nothing beside it.
func refuses(t *testing.T, got told, want api.Errno, what string, args ...any) {
	t.Helper()
	same(t, got.e, want, what, args...)
	same(t, len(got.b.Sheets)+len(got.b.Names)+len(got.b.Links), 0, what, args...)
}

// right: Check takes b.
func right(t *testing.T, b api.Book, what string, args ...any) {
	t.Helper()
	same(t, sheet.Check(b), api.OK, what, args...)
}

func cell(row, col int, text string) api.Cell {
	return api.Cell{Row: row, Col: col, Text: text}
}

func page(name string, l ...api.Cell) api.Sheet {
	return api.Sheet{Name: name, Cells: l}
}

// book: of sheets, with names and links that no call of this package looks at: they need not be right.
func book(l ...api.Sheet) api.Book {
	return api.Book{
		Sheets: l,
		Names:  []api.Name{{Scope: "S", Name: "tax", Text: "1/5"}, {Scope: "A1", Name: "", Text: "1+"}, {Scope: "S", Name: "tax", Text: "1/4"}},
		Links:  []api.Link{{Book: "a", Sheet: "S", Row: 1, Col: 2, Value: api.Value{Kind: api.Str, S: "x"}}, {Row: -1, Value: api.Value{Kind: 9, N: 5}}},
	}
}

// numbered: n cells that rise, with texts of their own, from A1 on, row by row.
func numbered(n int) []api.Cell {
	l := make([]api.Cell, n)
	for i := range l {
		l[i] = cell(1+i/api.MaxCols, 1+i%api.MaxCols, fmt.Sprint("n", i))
	}
	return l
}

// some: a book with sheets that have many cells, none and one.
func some() api.Book {
	return book(
		page("Jan", cell(1, 1, "x"), cell(1, 2, "=A1+1"), cell(1, 26, "7"), cell(2, 1, "'2"), cell(5, 3, "=SUM(A1:B2)"), cell(5, 4, " "), cell(64, 1, "=Feb!A1"), cell(64, 26, "end")),
		page("Feb"),
		page("jan", cell(3, 3, "one")),
	)
}

// full: a book of n sheets with as many cells as there may be.
func full(n int) api.Book {
	l := numbered(api.MaxCells)
	all := book()
	for i := range n {
		part := l[len(l)*i/n : len(l)*(i+1)/n]
		all.Sheets = append(all.Sheets, page(sheetNames()[i], part...))
	}
	return all
}

// sheetNames: good names, that differ little.
func sheetNames() []string {
	return []string{"S", "s", "S_", "Sa", "Sheet", "sheet", "S1a", "abcdefghijklmnop"}
}

// noNames: what no sheet may be called.
func noNames() []string {
	return []string{"", " ", "_", "1", "A1", "a1", "Z64", "A100", "a0", "TRUE", "false", "tRuE", "a b", " a", "a ", "a\n", "\x00", "_a", "1a", "a-b", "a!", "$a", "[b]a", "é", "aé", "\xff", "abcdefghijklmnopq", strings.Repeat("a", 257)}
}

// goodTexts: what cells may have, the longest ones among them. None is empty.
func goodTexts() []string {
	return []string{"x", "7", " ", "\t", "'=", "'=1+", " =1+", "(", "1+", "\"", "#REF", "é", "\xff", "\x00", "a\nb", "=1", "= 1 ", "=A2+1", "=a1", "=$A$1:B2", "=Jan!A1", "=[b]Jan!A1", "=tax", "=[b]tax", "=SUM(A1:A4)", "=sum()", `="a""b"`, `=""`, "=TRUE", "=#REF!", "=-2%", "=1=2", "=(1)",
		strings.Repeat("x", 254), strings.Repeat("x", 255), strings.Repeat("\xff", 255), strings.Repeat("é", 127), strings.Repeat("(", 255), "=1" + strings.Repeat(" ", 253), `="` + strings.Repeat("x", 252) + `"`, "=F(" + strings.Repeat("1,", 15) + "1)", "=" + strings.Repeat("-", 23) + "1"}
}

// longTexts: of more than MaxText bytes, formulas but for their length among them.
func longTexts() []string {
	return []string{strings.Repeat("x", 256), strings.Repeat("x", 257), strings.Repeat(" ", 256), strings.Repeat("\xff", 256), strings.Repeat("é", 128), "=1" + strings.Repeat(" ", 254), `="` + strings.Repeat("x", 253) + `"`, "=" + strings.Repeat("(", 255), strings.Repeat("=", 256), "=" + strings.Repeat("1+", 1<<10) + "1", strings.Repeat("x", 1<<16)}
}

// noFormulas: of at most MaxText bytes, that begin with = and are no formulas.
func noFormulas() []string {
	return []string{"=", "= ", "==", "==1", "=1+", "=A2+", "=+1", "=1 2", "=()", "=(1", "=1)", "=SUM(A1,)", "=A65", "=A100", "=A1:", "=A1:Jan!B2", "=Jan!tax", "=[b]A1", "=!", "=\"", "='1", "=#", "=#REF", "=a.b", "=é", "=\xff", "=\x00", "=1\n", "=" + strings.Repeat("x", 254), "=" + strings.Repeat("(", 254), "=F(" + strings.Repeat("1,", 16) + "1)", "=" + strings.Repeat("-", 24) + "1", "=100000000"}
}

// outside: rows and columns that no cell has, one of them or both.
func outside() [][2]int {
	var l [][2]int
	rows, cols := []int{0, -1, 65, 66, 1000, math.MaxInt, math.MinInt}, []int{0, -1, 27, 28, 1000, math.MaxInt, math.MinInt}
	for _, r := range rows {
		l = append(l, [2]int{r, 1}, [2]int{r, 26})
		for _, c := range cols {
			l = append(l, [2]int{r, c})
		}
	}
	for _, c := range cols {
		l = append(l, [2]int{1, c}, [2]int{64, c})
	}
	return l
}

// Made once, since very many are chosen of them.
var (
	allTexts  = goodTexts()
	wildTexts = slices.Concat(goodTexts(), longTexts()[:7], noFormulas(), []string{"", "", ""})
	wildNames = slices.Concat(sheetNames(), noNames(), sheetNames())

	allOutside = outside()
)

// The second way: a book as grids of texts, in the order of the sheets.

type grid [api.MaxRows + 1][api.MaxCols + 1]string

// model: a book's sheets; what lies at row and column 0 is not used.
type model struct {
	names []string
	grids map[string]*grid
}

// modelOf: the model of a book that is right.
func modelOf(b api.Book) model {
	m := model{grids: map[string]*grid{}}
	for _, s := range b.Sheets {
		m.names = append(m.names, s.Name)
		m.grids[s.Name] = gridOf(s.Cells)
	}
	return m
}

func gridOf(l []api.Cell) *grid {
	g := &grid{}
	for _, c := range l {
		g[c.Row][c.Col] = c.Text
	}
	return g
}

// cells: those of a box that are not blank, found by looking at every one.
func (g *grid) cells(r1, c1, r2, c2 int) []api.Cell {
	var l []api.Cell
	for row := 1; row <= api.MaxRows; row++ {
		for col := 1; col <= api.MaxCols; col++ {
			if g[row][col] != "" && r1 <= row && row <= r2 && c1 <= col && col <= c2 {
				l = append(l, cell(row, col, g[row][col]))
			}
		}
	}
	return l
}

// laid: the model as a book, with the names and the links of b.
func (m model) laid(b api.Book) api.Book {
	out := api.Book{Names: b.Names, Links: b.Links}
	for _, n := range m.names {
		out.Sheets = append(out.Sheets, page(n, m.grids[n].cells(1, 1, 64, 26)...))
	}
	return out
}

// count: how many cells are not blank.
func (m model) count() int {
	n := 0
	for _, g := range m.grids {
		for _, row := range g {
			for _, s := range row {
				if s != "" {
					n++
				}
			}
		}
	}
	return n
}

// anyCells: at most n cells that rise, many of them close together.
func anyCells(r *rand.Rand, n int) []api.Cell {
	g := &grid{}
	rows, cols := 1+r.Intn(64), 1+r.Intn(26)
	for range r.Intn(n + 1) {
		g[1+r.Intn(rows)][1+r.Intn(cols)] = allTexts[r.Intn(len(allTexts))]
	}
	return g.cells(1, 1, 64, 26)
}

// anyBook: a book that Check takes; some have as many cells as there may be.
func anyBook(r *rand.Rand) api.Book {
	if r.Intn(8) == 0 {
		return full(1 + r.Intn(api.MaxSheets))
	}
	b := book()
	for _, i := range r.Perm(len(sheetNames()))[:1+r.Intn(api.MaxSheets)] {
		b.Sheets = append(b.Sheets, page(sheetNames()[i], anyCells(r, []int{0, 1, 5, 50}[r.Intn(4)])...))
	}
	return b
}

// wildCell: a cell that may be one, or not.
func wildCell(r *rand.Rand) api.Cell {
	row, col := 1+r.Intn(64), 1+r.Intn(26)
	if r.Intn(8) == 0 {
		p := allOutside[r.Intn(len(allOutside))]
		row, col = p[0], p[1]
	}
	return cell(row, col, wildTexts[r.Intn(len(wildTexts))])
}

// wildCells: any cells, in any order, some of them twice.
func wildCells(r *rand.Rand) []api.Cell {
	l := make([]api.Cell, r.Intn(9))
	for i := range l {
		l[i] = wildCell(r)
		if i > 0 && r.Intn(4) == 0 {
			l[i].Row, l[i].Col = l[i-1].Row, l[i-1].Col
		}
	}
	return l
}

// wildBook: a book of any sheets.
func wildBook(r *rand.Rand) api.Book {
	b := book()
	for range r.Intn(7) {
		l := anyCells(r, 5)
		if r.Intn(2) == 0 {
			l = wildCells(r)
		}
		b.Sheets = append(b.Sheets, page(wildNames[r.Intn(len(wildNames))], l...))
	}
	return b
}
