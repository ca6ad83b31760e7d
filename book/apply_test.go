package book_test

import (
	"math"
	"slices"
	"strings"
	"testing"

	"octavo/api"
	"octavo/book"
)

// P15.2 and P15.3: each kind of change, its errors in their order, and its way back.

// bytesOf: n bytes of text.
func bytesOf(n int) string { return strings.Repeat("x", n) }

// outsides: numbers that are neither a row nor a column.
func outsides() []int { return []int{0, -1, 65, 1000, math.MaxInt, math.MinInt} }

func TestApplyOfNames(t *testing.T) {
	for _, n := range noNames() {
		got := asked(book.Apply(some(), n, set("S!A1", "7")))
		refuses(t, got, api.ErrName, "Apply", n)
		// The name counts ahead of the book, and of the kind.
		refuses(t, asked(book.Apply(api.Book{}, n, set("S!A1", "7"))), api.ErrName, "Apply", n)
		refuses(t, asked(book.Apply(some(), n, api.Op{})), api.ErrName, "Apply", n)
	}
	for _, n := range []string{"a", "B", "S", "tax", "x_1", "abcdefghijklmnop"} {
		got, _, e := book.Apply(some(), n, set("S!A1", "7"))
		same(t, e, api.OK, "Apply", n)
		same(t, got.Sheets[0].Cells[0].Text, "7", "Apply", n)
	}
}

func TestApplyOfWrongBooks(t *testing.T) {
	for _, f := range faults() {
		b := with(some(), f.put)
		for _, o := range []api.Op{set("S!A1", "7"), rows("S", 1, 1), drop("U"), define("tax", "1"), outDrop("c", "S"), {}, {Kind: 13}, set("X!A1", "7"), outDrop("b", "S")} {
			fails(t, b, o, f.e)
		}
	}
}

func TestApplyOfOtherKinds(t *testing.T) {
	for _, k := range []int{0, -1, 13, 14, 100, math.MaxInt, math.MinInt} {
		o := set("S!A1", "7")
		o.Kind = k
		fails(t, some(), o, api.ErrArg)
	}
}

// What a kind does not name is not looked at.
func TestApplyLooksAtWhatItsKindNames(t *testing.T) {
	all := api.Op{Book: "A1", Sheet: "", At: -5, N: math.MinInt, Row: math.MaxInt, Col: -1, Text: bytesOf(300), Name: api.Name{Scope: "X", Name: "A1", Text: "1+"}, Link: api.Link{Book: "1", Sheet: "2", Row: -1, Value: api.Value{Kind: 9}}, Cells: many(300)}
	l := kinds()
	for _, o := range l {
		want := asked(book.Apply(some(), "b", o))
		same(t, want.e, api.OK, "Apply", o)
		more := all
		more.Kind = o.Kind
		switch o.Kind {
		case api.OpSet:
			more.Sheet, more.Row, more.Col, more.Text = o.Sheet, o.Row, o.Col, o.Text
		case api.OpRows, api.OpCols:
			more.Sheet, more.At, more.N = o.Sheet, o.At, o.N
		case api.OpSheet:
			more.Sheet, more.At, more.Cells = o.Sheet, o.At, o.Cells
		case api.OpDrop:
			more.Sheet = o.Sheet
		case api.OpMove:
			more.Sheet, more.At = o.Sheet, o.At
		case api.OpName:
			more.Name = o.Name
		case api.OpLink:
			more.Link = o.Link
		case api.OpUnlink:
			more.Link = o.Link
			more.Link.Value = api.Value{Kind: 9, N: 9, S: "x"}
		case api.OpOutRows, api.OpOutCols:
			more.Book, more.Sheet, more.At, more.N = o.Book, o.Sheet, o.At, o.N
		case api.OpOutDrop:
			more.Book, more.Sheet = o.Book, o.Sheet
		}
		answers(t, asked(book.Apply(some(), "b", more)), want.b, want.back, "Apply", more)
	}
}

// kinds: changes of each kind that change some.
func kinds() []api.Op {
	return []api.Op{
		set("S!A1", "7"), set("S!A2", "7"), set("S!A1", ""),
		rows("T", 2, 1), rows("S", 2, -2), cols("S", 1, -1), cols("T", 2, 5), rows("S", 64, -1),
		add("V", 1, "A1 x | B2 =S!A1"), add("V", 0, ""), add("V", 3, ""),
		drop("S"), drop("T"), drop("U"), move("S", 2), move("U", 0), move("T", 1),
		define("tax", "1/4"), define("all", "1/4"), define("all", ""), define("U.tax", "A1"), define("T.tax", ""),
		cache("[c]S!A1", "2"), cache("[c]S!A2", "2"), cache("[b]U!A1", ""), cache("[z]z!Z64", "x"), uncache("[c]S!A1"), uncache("[d]S!A3"),
		outRows("c", "S", 2, 1), outRows("c", "S", 1, -3), outCols("c", "S", 1, -1), outCols("d", "S", 1, 25), outDrop("c", "S"), outDrop("d", "S"), outDrop("x", "x"),
	}
}

func TestSet(t *testing.T) {
	b := made("S: A1 x | B2 =A1", "T: C3 y")
	does(t, b, set("S!A1", "z"), made("S: A1 z | B2 =A1", "T: C3 y"), set("S!A1", "x"))
	does(t, b, set("S!A2", "z"), made("S: A1 x | A2 z | B2 =A1", "T: C3 y"), set("S!A2", ""))
	does(t, b, set("T!C3", ""), made("S: A1 x | B2 =A1", "T:"), set("T!C3", "y"))
	does(t, b, set("T!Z64", ""), b, set("T!Z64", ""))
	does(t, b, set("S!B2", "=A1"), b, set("S!B2", "=A1"))
	does(t, b, set("S!B2", "= 1+2 "), made("S: A1 x | B2 = 1+2 ", "T: C3 y"), set("S!B2", "=A1"))
	fails(t, b, set("T!C3", bytesOf(256)), api.ErrText)
	fails(t, b, set("X!C3", "z"), api.ErrNone)
	fails(t, b, set("T!C3", "=1+"), api.ErrForm)
	for _, n := range outsides() {
		fails(t, b, api.Op{Kind: 1, Sheet: "S", Row: n, Col: 1, Text: "z"}, api.ErrRange)
		fails(t, b, api.Op{Kind: 1, Sheet: "S", Row: 1, Col: n, Text: "z"}, api.ErrRange)
	}
	// Where two hold at once.
	fails(t, b, set("X!C3", bytesOf(256)), api.ErrText)
	fails(t, b, api.Op{Kind: 1, Sheet: "X", Row: 65, Col: 1, Text: "=1+"}, api.ErrNone)
	fails(t, b, api.Op{Kind: 1, Sheet: "S", Row: 65, Col: 1, Text: "=1+"}, api.ErrRange)
	full := api.Book{Sheets: []api.Sheet{page("S", many(199)...), page("T", cells("A1 x")...)}}
	fails(t, full, set("T!A2", "x"), api.ErrCells)
	fails(t, full, set("T!A2", "=1+"), api.ErrForm)
	does(t, full, set("T!A1", "y"), with(full, func(b *api.Book) { b.Sheets[1].Cells[0].Text = "y" }), set("T!A1", "x"))
	does(t, full, set("T!A1", ""), with(full, func(b *api.Book) { b.Sheets[1].Cells = nil }), set("T!A1", "x"))
}

func TestSheet(t *testing.T) {
	b := made("S: A1 =N!A1", "T:")
	// What names the new sheet means it from now on; on the way back it is found again as it was.
	does(t, b, add("N", 1, "A1 =B1 | B1 2"), made("S: A1 =N!A1", "N: A1 =B1 | B1 2", "T:"), drop("N"), set("S!A1", "=N!A1"))
	does(t, b, add("M", 0, ""), made("M:", "S: A1 =N!A1", "T:"), drop("M"))
	does(t, b, add("M", 2, ""), made("S: A1 =N!A1", "T:", "M:"), drop("M"))
	named := made("S: A1 = n!A1 + [b]N!A1", "n := SUM(N!A1:B2)")
	does(t, named, add("N", 0, "A1 =[b]N!A1"), made("N: A1 =[b]N!A1", "S: A1 = n!A1 + [b]N!A1", "n := SUM(N!A1:B2)"), drop("N"), set("S!A1", "= n!A1 + [b]N!A1"), define("n", "SUM(N!A1:B2)"))
	fails(t, b, add("A1", 0, ""), api.ErrName)
	fails(t, b, add("T", 0, ""), api.ErrExists)
	for _, at := range []int{-1, 3, math.MaxInt, math.MinInt} {
		fails(t, b, add("N", at, ""), api.ErrRange)
	}
	for _, l := range [][]api.Cell{{{Row: 65, Col: 1, Text: "x"}}, {{Row: 1, Col: 1}}, slices.Concat(cells("A1 x"), cells("A1 y")), cells("B1 x | A1 y"), cells("A1 =1+"), {{Row: 1, Col: 1, Text: bytesOf(256)}}} {
		fails(t, b, api.Op{Kind: 4, Sheet: "N", Cells: l}, api.ErrRange)
		fails(t, made("S:", "T:", "U:", "V:"), api.Op{Kind: 4, Sheet: "N", Cells: l}, api.ErrRange)
	}
	full := made("S:", "T:", "U:", "V:")
	full.Sheets[0].Cells = many(200)
	fails(t, full, add("A1", 5, "A1 x"), api.ErrName)
	fails(t, full, add("T", 5, "A1 x"), api.ErrExists)
	fails(t, full, add("N", 5, "A1 x"), api.ErrRange)
	fails(t, full, add("N", 4, "A1 x"), api.ErrSheets)
	full.Sheets = full.Sheets[:3]
	fails(t, full, add("N", 3, "A1 x"), api.ErrCells)
	does(t, full, add("N", 3, ""), with(full, func(b *api.Book) { b.Sheets = append(b.Sheets, page("N")) }), drop("N"))
}

func TestDrop(t *testing.T) {
	b := made("S: A1 =T!A1+A2 | B2 =SUM(T!A1:B2) | C3 =[b]T!A1 | D4 =[c]T!A1", "T: A1 =S!A1 | B2 x", "U: A1 =A2",
		"all := T!A1+S!A1", "tax := A1", "S.own := SUM(T!A1:A9)", "S.tax := A1", "T.own := A1", "T.tax := S!A1", "U.tax := 1")
	does(t, b, drop("T"), made("S: A1 =#REF!+A2 | B2 =SUM(#REF!) | C3 =#REF! | D4 =[c]T!A1", "U: A1 =A2",
		"all := #REF!+S!A1", "tax := A1", "S.own := SUM(#REF!)", "S.tax := A1", "U.tax := 1"),
		add("T", 1, "A1 =S!A1 | B2 x"),
		set("S!A1", "=T!A1+A2"), set("S!B2", "=SUM(T!A1:B2)"), set("S!C3", "=[b]T!A1"),
		define("all", "T!A1+S!A1"), define("S.own", "SUM(T!A1:A9)"), define("T.own", "A1"), define("T.tax", "S!A1"))
	does(t, made("S: A1 =A2", "T:"), drop("S"), made("T:"), add("S", 0, "A1 =A2"))
	does(t, made("S:", "T:"), drop("T"), made("S:"), add("T", 1, ""))
	// Links are of other books; a link's sheet may be called as one that goes.
	links := made("S:", "T:", "[b]S!A1 1", "[c]S!A1 2")
	does(t, links, drop("S"), made("T:", "[b]S!A1 1", "[c]S!A1 2"), add("S", 0, ""))
	fails(t, b, drop("X"), api.ErrNone)
	fails(t, b, drop(""), api.ErrNone)
	fails(t, made("S:"), drop("X"), api.ErrNone)
	fails(t, made("S:"), drop("S"), api.ErrSheets)
	// A formula that gets too long, and one that goes with its sheet.
	long := made("T: A1 1", "U:")
	long.Sheets[1].Cells = []api.Cell{{Row: 1, Col: 1, Text: padded("=T!A1", 255)}}
	fails(t, long, drop("T"), api.ErrText)
	does(t, long, drop("U"), made("T: A1 1"), api.Op{Kind: 4, Sheet: "U", At: 1, Cells: long.Sheets[1].Cells})
	long.Sheets[0].Cells[0].Text = padded("=T!A1+A1", 255)
	long.Sheets[1].Cells = nil
	does(t, long, drop("T"), made("U:"), api.Op{Kind: 4, Sheet: "T", At: 0, Cells: long.Sheets[0].Cells})
}

func TestMove(t *testing.T) {
	b := made("S: A1 =T!A1", "T:", "U:", "S.tax := 1")
	does(t, b, move("S", 2), made("T:", "U:", "S: A1 =T!A1", "S.tax := 1"), move("S", 0))
	does(t, b, move("U", 0), made("U:", "S: A1 =T!A1", "T:", "S.tax := 1"), move("U", 2))
	does(t, b, move("T", 1), b, move("T", 1))
	does(t, made("S:"), move("S", 0), made("S:"), move("S", 0))
	fails(t, b, move("X", 0), api.ErrNone)
	fails(t, b, move("X", 9), api.ErrNone)
	for _, at := range []int{-1, 3, math.MaxInt, math.MinInt} {
		fails(t, b, move("S", at), api.ErrRange)
	}
}

func TestName(t *testing.T) {
	b := made("S:", "T:", "tax := 1/5", "S.tax := 1/4")
	does(t, b, define("tax", "A1"), made("S:", "T:", "tax := A1", "S.tax := 1/4"), define("tax", "1/5"))
	does(t, b, define("tax", "1/5"), b, define("tax", "1/5"))
	does(t, b, define("rate", " 1 "), made("S:", "T:", "rate :=  1 ", "tax := 1/5", "S.tax := 1/4"), define("rate", ""))
	does(t, b, define("T.tax", "B2"), made("S:", "T:", "tax := 1/5", "S.tax := 1/4", "T.tax := B2"), define("T.tax", ""))
	does(t, b, define("S.tax", ""), made("S:", "T:", "tax := 1/5"), define("S.tax", "1/4"))
	does(t, b, define("tax", ""), made("S:", "T:", "S.tax := 1/4"), define("tax", "1/5"))
	fails(t, b, define("X.tax", "1"), api.ErrNone)
	fails(t, b, define("s.tax", "1"), api.ErrNone)
	fails(t, b, define("A1.tax", "1"), api.ErrNone)
	fails(t, b, define("tax", bytesOf(256)), api.ErrText)
	for _, n := range noNames() {
		fails(t, b, api.Op{Kind: 7, Name: api.Name{Name: n, Text: "1"}}, api.ErrName)
		fails(t, b, api.Op{Kind: 7, Name: api.Name{Name: n}}, api.ErrNone)
	}
	for _, s := range []string{"=1", "1+", " ", "A65"} {
		fails(t, b, define("tax", s), api.ErrForm)
	}
	// Removed where there is none.
	for _, n := range []string{"rate", "T.tax", "X.tax", "A1.tax", "Tax"} {
		fails(t, b, define(n, ""), api.ErrNone)
	}
	// Where two hold at once.
	fails(t, b, define("X.A1", bytesOf(256)), api.ErrNone)
	fails(t, b, define("S.A1", bytesOf(256)), api.ErrText)
	fails(t, b, define("S.A1", "1+"), api.ErrName)
	full := api.Book{Sheets: []api.Sheet{page("S")}, Names: append(manyNames("", 31), name("S.tax", "1"))}
	fails(t, full, define("tax", "1+"), api.ErrForm)
	fails(t, full, define("tax", "1"), api.ErrRange)
	fails(t, full, define("S.rate", "1"), api.ErrRange)
	does(t, full, define("S.tax", "2"), with(full, func(b *api.Book) { b.Names[31].Text = "2" }), define("S.tax", "1"))
	does(t, full, define("S.tax", ""), with(full, func(b *api.Book) { b.Names = b.Names[:31] }), define("S.tax", "1"))
}

func TestLink(t *testing.T) {
	b := made("S:", "[c]S!A1 1", "[c]S!C1 x", "[d]S!A1")
	does(t, b, cache("[c]S!A1", "2"), made("S:", "[c]S!A1 2", "[c]S!C1 x", "[d]S!A1"), cache("[c]S!A1", "1"))
	does(t, b, cache("[c]S!A1", "1"), b, cache("[c]S!A1", "1"))
	does(t, b, cache("[d]S!A1", "#N/A"), made("S:", "[c]S!A1 1", "[c]S!C1 x", "[d]S!A1 #N/A"), cache("[d]S!A1", ""))
	does(t, b, cache("[c]S!B1", "2"), made("S:", "[c]S!A1 1", "[c]S!B1 2", "[c]S!C1 x", "[d]S!A1"), uncache("[c]S!B1"))
	does(t, b, cache("[c]S!B1", ""), made("S:", "[c]S!A1 1", "[c]S!B1", "[c]S!C1 x", "[d]S!A1"), uncache("[c]S!B1"))
	does(t, b, cache("[a]T!Z64", "TRUE"), made("S:", "[a]T!Z64 TRUE", "[c]S!A1 1", "[c]S!C1 x", "[d]S!A1"), uncache("[a]T!Z64"))
	does(t, b, cache("[b]S!A1", "5"), made("S:", "[b]S!A1 5", "[c]S!A1 1", "[c]S!C1 x", "[d]S!A1"), uncache("[b]S!A1"))
	does(t, b, cache("[z]S!A1", "'"+bytesOf(255)), made("S:", "[c]S!A1 1", "[c]S!C1 x", "[d]S!A1", "[z]S!A1 '"+bytesOf(255)), uncache("[z]S!A1"))
	good := link("[c]S!A1", "2")
	for _, n := range noNames() {
		x, y := good, good
		x.Book, y.Sheet, y.Row = n, n, 0
		fails(t, b, api.Op{Kind: 8, Link: x}, api.ErrName)
		fails(t, b, api.Op{Kind: 8, Link: y}, api.ErrName) // ahead of what is outside
	}
	for _, n := range outsides() {
		x, y := good, good
		x.Row, y.Col = n, n
		fails(t, b, api.Op{Kind: 8, Link: x}, api.ErrRange)
		fails(t, b, api.Op{Kind: 8, Link: y}, api.ErrRange)
	}
	for _, v := range badValues() {
		x := good
		x.Value = v
		fails(t, b, api.Op{Kind: 8, Link: x}, api.ErrRange)
		x.Book = ""
		fails(t, b, api.Op{Kind: 8, Link: x}, api.ErrName)
	}
	full := api.Book{Sheets: []api.Sheet{page("S")}, Links: manyLinks(64)}
	fails(t, full, cache("[c]S!A5", "1"), api.ErrRange)
	fails(t, full, cache("[b]S!A1", "1"), api.ErrRange)
	does(t, full, cache("[c]S!A1", "x"), with(full, func(b *api.Book) { b.Links[0].Value = link("[c]S!A1", "x").Value }), cache("[c]S!A1", "0"))
	full.Links = full.Links[:63]
	does(t, full, cache("[d]S!A5", "1"), with(full, func(b *api.Book) { b.Links = append(b.Links, link("[d]S!A5", "1")) }), uncache("[d]S!A5"))
}

func TestUnlink(t *testing.T) {
	b := made("S:", "[c]S!A1 1", "[c]S!C1 x", "[d]S!A1")
	does(t, b, uncache("[c]S!A1"), made("S:", "[c]S!C1 x", "[d]S!A1"), cache("[c]S!A1", "1"))
	does(t, b, uncache("[c]S!C1"), made("S:", "[c]S!A1 1", "[d]S!A1"), cache("[c]S!C1", "x"))
	does(t, b, uncache("[d]S!A1"), made("S:", "[c]S!A1 1", "[c]S!C1 x"), cache("[d]S!A1", ""))
	for _, at := range []string{"[c]S!B1", "[c]S!A2", "[c]T!A1", "[C]S!A1", "[e]S!A1"} {
		fails(t, b, uncache(at), api.ErrNone)
	}
	for _, x := range []api.Link{{}, {Book: "c", Sheet: "S", Row: 1}, {Book: "A1", Sheet: "S", Row: 1, Col: 1}, {Book: "c", Sheet: "S", Row: math.MinInt, Col: math.MaxInt}} {
		fails(t, b, api.Op{Kind: 9, Link: x}, api.ErrNone)
	}
}
