package book_test

import (
	"cmp"
	"fmt"
	"math"
	"slices"
	"strings"
	"testing"

	"octavo/api"
	"octavo/book"
)

// P15.1

func TestNew(t *testing.T) {
	b := book.New()
	alike(t, b, api.Book{Sheets: []api.Sheet{{Name: "Sheet"}}}, "New")
	same(t, book.Check(b), api.OK, "Check of New")
	b.Sheets[0].Name = "Other"
	same(t, book.New().Sheets[0].Name, "Sheet", "New behind a change of another one")
}

func TestCheckTakes(t *testing.T) {
	for _, b := range []api.Book{
		book.New(), some(), made("S:"), made("S: A1 = 1 + 2 | Z64 '=x"), made("S:", "T:", "U:", "V:"),
		made("S:", "tax := A1", "S.tax := tax"), made("S:", "s:", "S.tax := 1", "s.tax := 1"),
		{Sheets: []api.Sheet{page("S", many(200)...)}},
		{Sheets: []api.Sheet{page("S")}, Names: append(manyNames("", 16), manyNames("S", 16)...)},
		{Sheets: []api.Sheet{page("S")}, Links: manyLinks(64)},
		{Sheets: []api.Sheet{page("S")}, Links: []api.Link{}, Names: []api.Name{}},
		// A link may be of any book and sheet, and of a blank cell.
		made("S:", "[b]S!A1 1", "[c]S!A1", "[c]S!A64 2", "[c]S!Z64 3", "[c]s!A1 4", "[d]S!A1 5"),
	} {
		same(t, book.Check(b), api.OK, "Check", seen(b))
	}
}

// linked: some, with these links alone.
func linked(l ...api.Link) api.Book {
	return with(some(), func(b *api.Book) { b.Links = l })
}

func TestCheckOfLinks(t *testing.T) {
	good := link("[c]S!B2", "5")
	same(t, book.Check(linked(good)), api.OK, "Check")
	wrong := map[string]api.Book{
		"one too many":      linked(manyLinks(65)...),
		"twice":             linked(good, good),
		"one cell, another": linked(good, link("[c]S!B2", "6")),
		"books that fall":   linked(link("[d]S!A1", "1"), link("[c]S!A1", "1")),
		"books by bytes":    linked(link("[c]S!A1", "1"), link("[C]S!A1", "1")),
		"sheets that fall":  linked(link("[c]T!A1", "1"), link("[c]S!A1", "1")),
		"rows that fall":    linked(link("[c]S!A2", "1"), link("[c]S!B1", "1")),
		"columns that fall": linked(link("[c]S!B1", "1"), link("[c]S!A1", "1")),
	}
	for _, n := range noNames() {
		b, s := good, good
		b.Book, s.Sheet = n, n
		wrong["book "+n], wrong["sheet "+n] = linked(b), linked(s)
	}
	for _, n := range []int{0, -1, 65, 1000, math.MaxInt, math.MinInt} {
		x := good
		x.Row = n
		wrong[fmt.Sprint("row ", n)] = linked(x)
	}
	for _, n := range []int{0, -1, 27, 1000, math.MaxInt, math.MinInt} {
		x := good
		x.Col = n
		wrong[fmt.Sprint("column ", n)] = linked(x)
	}
	for _, v := range badValues() {
		x := good
		x.Value = v
		wrong[fmt.Sprint("value ", v)] = linked(x)
	}
	for what, b := range wrong {
		same(t, book.Check(b), api.ErrRange, "Check of links: "+what)
	}
}

// badValues: values that may not be.
func badValues() []api.Value {
	return []api.Value{{N: 1}, {S: "x"}, {Kind: 1, N: api.MaxNum + 1}, {Kind: 1, N: -api.MaxNum - 1}, {Kind: 1, S: "x"}, {Kind: 2, N: 1}, {Kind: 2, S: strings.Repeat("x", 256)}, {Kind: 3, N: 2}, {Kind: 3, N: -1}, {Kind: 4}, {Kind: 4, N: 9}, {Kind: 4, N: 6, S: "#N/A"}, {Kind: 5}, {Kind: -1}, {Kind: math.MinInt, N: math.MaxInt}}
}

// faults: what a book may have that is wrong, in P15.1's order (sheet's and names' own order within).
func faults() []struct {
	what string
	e    api.Errno
	put  func(b *api.Book)
} {
	return []struct {
		what string
		e    api.Errno
		put  func(b *api.Book)
	}{
		{"too many sheets", api.ErrSheets, func(b *api.Book) { b.Sheets = append(b.Sheets, page("V"), page("W")) }},
		{"a sheet's name", api.ErrName, func(b *api.Book) { b.Sheets[2].Name = "A1" }},
		{"a sheet twice", api.ErrExists, func(b *api.Book) { b.Sheets[2].Name = "S" }},
		{"a cell outside", api.ErrRange, func(b *api.Book) { b.Sheets[0].Cells[4].Row = 65 }},
		{"a cell's text", api.ErrText, func(b *api.Book) { b.Sheets[0].Cells[0].Text = strings.Repeat("x", 256) }},
		{"a cell's formula", api.ErrForm, func(b *api.Book) { b.Sheets[0].Cells[1].Text = "=1+" }},
		{"too many cells", api.ErrCells, func(b *api.Book) { b.Sheets[2].Cells = many(200) }},
		{"a name's text", api.ErrText, func(b *api.Book) { b.Names[0].Text = strings.Repeat("1", 256) }},
		{"a name", api.ErrName, func(b *api.Book) { b.Names[1].Name = "TRUE" }},
		{"a name's formula", api.ErrForm, func(b *api.Book) { b.Names[2].Text = "" }},
		{"names that fall", api.ErrRange, func(b *api.Book) { b.Names[0].Name = "zzz" }},
		{"a name's scope", api.ErrNone, func(b *api.Book) { b.Names[4].Scope = "X" }},
		{"a link's value", api.ErrRange, func(b *api.Book) { b.Links[0].Value.Kind = 9 }},
	}
}

func TestCheckTellsWhatIsWrong(t *testing.T) {
	l := faults()
	for _, f := range l {
		same(t, book.Check(with(some(), f.put)), f.e, "Check", f.what)
	}
	same(t, book.Check(api.Book{}), api.ErrSheets, "Check of nothing")
}

// A fault of the sheets counts ahead of one of the names, this one ahead of a scope, and a scope ahead of a link.
func TestCheckTellsTheFirst(t *testing.T) {
	l := faults()
	part := func(i int) int {
		switch {
		case i < 7:
			return 0
		case i < 11:
			return 1
		}
		return i
	}
	for i, first := range l {
		for j, second := range l[i+1:] {
			if part(i) == part(i+1+j) {
				continue
			}
			b := with(with(some(), second.put), first.put)
			same(t, book.Check(b), first.e, "Check", first.what, " ", second.what)
		}
	}
}

func TestScopesOfNames(t *testing.T) {
	for _, s := range []string{"X", "s", "SS", "tax", "c"} {
		b := made("S:", "tax := 1")
		b.Names[0].Scope = s
		same(t, book.Check(b), api.ErrNone, "Check of scope ", s)
	}
	for _, s := range noNames()[1:] {
		b := made("S:", "tax := 1")
		b.Names[0].Scope = s
		same(t, book.Check(b), api.ErrName, "Check of scope ", s)
	}
}

func TestCmpLink(t *testing.T) {
	var l []api.Link
	for _, b := range []string{"", "B", "B0", "b", "é"} {
		for _, s := range []string{"", "S", "SS", "s"} {
			for _, row := range []int{math.MinInt, -1, 0, 1, 2, math.MaxInt} {
				for _, col := range []int{math.MinInt, 0, 1, 26, math.MaxInt} {
					l = append(l, api.Link{Book: b, Sheet: s, Row: row, Col: col})
				}
			}
		}
	}
	for i, a := range l {
		for j, b := range l {
			a.Value, b.Value = api.Value{Kind: 1, N: j}, api.Value{Kind: 2, N: i}
			same(t, book.CmpLink(a, b), cmp.Compare(i, j), "CmpLink", a, b)
		}
	}
}

func TestFindLink(t *testing.T) {
	b := some()
	for _, x := range b.Links {
		v, ok := book.FindLink(b, api.Place{Book: x.Book, Sheet: x.Sheet, Row: x.Row, Col: x.Col})
		same(t, ok, true, "FindLink", x)
		same(t, v, x.Value, "FindLink", x)
	}
	for _, p := range []api.Place{{}, {Book: "c", Sheet: "S", Row: 2, Col: 1}, {Book: "c", Sheet: "S", Row: 1, Col: 2}, {Book: "C", Sheet: "S", Row: 1, Col: 1}, {Book: "c", Sheet: "s", Row: 1, Col: 1}, {Book: "d", Sheet: "S", Row: 1, Col: 1}, {Sheet: "S", Row: 1, Col: 1}, {Book: "c", Row: 1, Col: 1}, {Book: "b", Sheet: "S", Row: 1, Col: 1}} {
		v, ok := book.FindLink(b, p)
		same(t, ok, false, "FindLink", p)
		same(t, v, api.Value{}, "FindLink", p)
	}
	// Of several the first one counts, in whichever order they stand.
	l := []api.Link{link("[d]S!A1", "1"), link("[c]S!A1", "2"), link("[d]S!A1", "3"), link("[c]S!A1", "4")}
	for range 4 {
		for _, x := range l {
			v, _ := book.FindLink(api.Book{Links: l}, api.Place{Book: x.Book, Sheet: x.Sheet, Row: 1, Col: 1})
			at := slices.IndexFunc(l, func(y api.Link) bool { return y.Book == x.Book })
			same(t, v, l[at].Value, "FindLink", x)
		}
		l = append(l[1:], l[0])
	}
}
