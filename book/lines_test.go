package book_test

import (
	"math"
	"strings"
	"testing"

	"octavo/api"
	"octavo/book"
)

// P15.2 and P15.3: lines of the book's own sheets, and of others; formulas that follow.

// The document's example.
func TestExample(t *testing.T) {
	b, _, e := book.Apply(book.New(), "b", set("Sheet!A1", "=A2"))
	same(t, e, api.OK, "Apply")
	does(t, b, rows("Sheet", 2, 1), made("Sheet: A1 =A3"), rows("Sheet", 2, -1))
	does(t, b, rows("Sheet", 2, -1), made("Sheet: A1 =#REF!"), rows("Sheet", 2, 1), set("Sheet!A1", "=A2"))
}

func TestRows(t *testing.T) {
	b := made("S: A1 x | A2 =A3 | C3 =A1+A2+A3 | A62 z", "T: A2 =S!A2 | A3 =A3", "tax := S!A3", "S.tax := A3", "T.tax := A3+S!A3")
	does(t, b, rows("S", 3, 2), made("S: A1 x | A2 =A5 | C5 =A1+A2+A5 | A64 z", "T: A2 =S!A2 | A3 =A3", "tax := S!A5", "S.tax := A5", "T.tax := A3+S!A5"), rows("S", 3, -2))
	does(t, b, rows("S", 64, 1), b, rows("S", 64, -1))
	does(t, b, rows("S", 63, 2), b, rows("S", 63, -2))
	does(t, b, rows("T", 1, 1), made("S: A1 x | A2 =A3 | C3 =A1+A2+A3 | A62 z", "T: A3 =S!A2 | A4 =A4", "tax := S!A3", "S.tax := A3", "T.tax := A4+S!A3"), rows("T", 1, -1))
	// Lines that go take their cells along, and these come back with the formulas that meant them.
	does(t, b, rows("S", 2, -2), made("S: A1 x | A60 z", "T: A2 =#REF! | A3 =A3", "tax := #REF!", "S.tax := #REF!", "T.tax := A3+#REF!"),
		rows("S", 2, 2), set("S!A2", "=A3"), set("S!C3", "=A1+A2+A3"), set("T!A2", "=S!A2"), define("tax", "S!A3"), define("S.tax", "A3"), define("T.tax", "A3+S!A3"))
	does(t, b, rows("S", 63, -2), b, rows("S", 63, 2))
	does(t, made("S: A1 x | B2 y | C64 z"), rows("S", 1, -64), made("S:"), rows("S", 1, 64), set("S!A1", "x"), set("S!B2", "y"), set("S!C64", "z"))
	// Rows are no columns.
	does(t, made("S: C1 =C1 | D4 =D1+A4"), rows("S", 3, 1), made("S: C1 =C1 | D5 =D1+A5"), rows("S", 3, -1))
}

func TestCols(t *testing.T) {
	b := made("S: A1 x | B1 =C1 | X1 z | C3 =A1+B1+C1", "T: B1 =S!B1 | C1 =C1", "tax := S!C1", "S.tax := C1", "T.tax := C1+S!C1")
	does(t, b, cols("S", 3, 2), made("S: A1 x | B1 =E1 | Z1 z | E3 =A1+B1+E1", "T: B1 =S!B1 | C1 =C1", "tax := S!E1", "S.tax := E1", "T.tax := C1+S!E1"), cols("S", 3, -2))
	does(t, b, cols("S", 25, 2), b, cols("S", 25, -2))
	does(t, b, cols("S", 2, -2), made("S: A1 x | V1 z", "T: B1 =#REF! | C1 =C1", "tax := #REF!", "S.tax := #REF!", "T.tax := C1+#REF!"),
		cols("S", 2, 2), set("S!B1", "=C1"), set("S!C3", "=A1+B1+C1"), set("T!B1", "=S!B1"), define("tax", "S!C1"), define("S.tax", "C1"), define("T.tax", "C1+S!C1"))
	does(t, made("S: A1 x | Z2 z | B64 y"), cols("S", 1, -26), made("S:"), cols("S", 1, 26), set("S!A1", "x"), set("S!Z2", "z"), set("S!B64", "y"))
	does(t, made("S: A3 =A3 | D4 =A4+D1"), cols("S", 3, 1), made("S: A3 =A3 | E4 =A4+E1"), cols("S", 3, -1))
}

// The errors of an own sheet's lines, in their order.
func TestLinesThatMayNotBe(t *testing.T) {
	b := made("S: A1 x", "T: Z64 x")
	for _, f := range []func(s string, at, n int) api.Op{rows, cols} {
		most := 64
		if f("", 1, 1).Kind == api.OpCols {
			most = 26
		}
		for _, x := range badLines(most) {
			fails(t, b, f("S", x[0], x[1]), api.ErrRange)
			fails(t, b, f("X", x[0], x[1]), api.ErrNone)
			fails(t, made("S:"), f("S", x[0], x[1]), api.ErrRange)
		}
		// What falls off.
		fails(t, b, f("T", 1, 1), api.ErrRange)
		fails(t, b, f("T", most, 1), api.ErrRange)
		fails(t, b, f("S", 1, most), api.ErrRange)
		fails(t, b, f("X", 1, 1), api.ErrNone)
		fails(t, b, f("", 1, 1), api.ErrNone)
	}
}

// badLines: At and N of shifts that are not good.
func badLines(most int) [][2]int {
	return [][2]int{{1, 0}, {0, 1}, {0, -1}, {-1, 1}, {most + 1, 1}, {most + 1, -1}, {most, 2}, {most, -2}, {1, most + 1}, {1, -most - 1}, {2, most}, {2, -most}, {math.MaxInt, 1}, {math.MinInt, 1}, {1, math.MaxInt}, {1, math.MinInt}, {math.MaxInt, math.MaxInt}, {math.MinInt, math.MinInt}}
}

// What a formula means, and how it is found again.
func TestFormulasFollow(t *testing.T) {
	for _, x := range []struct {
		was, is string
		again   bool // does the change back make it what it was?
	}{
		{"=A1", "=A1", true}, {"=A2", "=A4", true}, {"=a2", "=A4", false}, {"= A2 + 1.50", "=A4+1.5", false}, {"= A1 + 1.50", "= A1 + 1.50", true},
		{"=$A$2:B9", "=$A$4:B11", true}, {"=A1:A2", "=A1:A4", true}, {"=B9:A2", "=A4:B11", false}, {"=A63", "=#REF!", false}, {"=SUM(A1:A64)", "=SUM(A1:A64)", false},
		{"=S!A2", "=S!A4", true}, {"=[b]S!A2", "=[b]S!A4", true}, {"=[c]S!A2", "=[c]S!A2", true}, {"=s!A2", "=s!A2", true}, {"=T!A2", "=T!A2", true}, {"=[b]T!A2+A2", "=[b]T!A2+A4", true},
		{"A2", "A2", true}, {"'=A2", "'=A2", true}, {`="A2"&A2`, `="A2"&A4`, true}, {"=tax*A2", "=tax*A4", true}, {"=-SUM(A2,IF(A2>1,A2%,#N/A))", "=-SUM(A4,IF(A4>1,A4%,#N/A))", true},
	} {
		back := []api.Op{rows("S", 2, -2)}
		if !x.again {
			back = append(back, set("S!A1", x.was))
		}
		does(t, made("S: A1 "+x.was, "T:"), rows("S", 2, 2), made("S: A1 "+x.is, "T:"), back...)
		if strings.HasPrefix(x.was, "=") {
			back = []api.Op{rows("S", 2, -2)}
			if !x.again {
				back = append(back, define("S.n", x.was[1:]))
			}
			does(t, made("S:", "T:", "S.n := "+x.was[1:]), rows("S", 2, 2), made("S:", "T:", "S.n := "+x.is[1:]), back...)
		}
	}
	// A name of the book has no sheet: a ref without one means none.
	does(t, made("S:", "n := A2+S!A2"), rows("S", 2, 2), made("S:", "n := A2+S!A4"), rows("S", 2, -2))
	does(t, made("S:", "T:", "n := A2", "S.n := A2", "T.n := A2"), drop("T"), made("S:", "n := A2", "S.n := A2"), add("T", 1, ""), define("T.n", "A2"))
}

// A formula that gets too long, wherever it stands.
func TestFormulasThatGetTooLong(t *testing.T) {
	at := func(s string, n int) string { return padded("="+s, n) }
	for _, n := range []int{254, 255} {
		b := made("S:", "T:")
		b.Sheets[0].Cells = []api.Cell{{Row: 1, Col: 1, Text: at("A9", n)}}
		o := made("S:", "T:")
		o.Sheets[1].Cells = []api.Cell{{Row: 1, Col: 1, Text: at("S!A9", n)}}
		// A name's text is counted with a = ahead.
		s := made("S:", "T:", "S.n := "+at("A9", n)[1:])
		w := made("S:", "T:", "n := "+at("S!A9", n)[1:])
		c := made("S:", "T: A1 "+at("[c]S!A9", n))
		cn := made("S:", "T:", "T.n := "+at("[c]S!A9", n)[1:])
		if n == 255 {
			for _, x := range []api.Book{b, o, s, w} {
				fails(t, x, rows("S", 9, 1), api.ErrText)
				fails(t, x, rows("S", 1, 7), api.ErrText)
				does(t, x, rows("S", 10, 1), x, rows("S", 10, -1))
			}
			for _, x := range []api.Book{c, cn} {
				fails(t, x, outRows("c", "S", 9, 1), api.ErrText)
				does(t, x, outRows("c", "S", 10, 1), x, outRows("c", "S", 10, -1))
			}
			continue
		}
		does(t, b, rows("S", 9, 1), with(b, func(b *api.Book) { b.Sheets[0].Cells[0].Text = at("A10", 255) }), rows("S", 9, -1))
		does(t, o, rows("S", 9, 1), with(o, func(b *api.Book) { b.Sheets[1].Cells[0].Text = at("S!A10", 255) }), rows("S", 9, -1))
		does(t, s, rows("S", 9, 1), with(s, func(b *api.Book) { b.Names[0].Text = at("A10", 255)[1:] }), rows("S", 9, -1))
		does(t, w, rows("S", 9, 1), with(w, func(b *api.Book) { b.Names[0].Text = at("S!A10", 255)[1:] }), rows("S", 9, -1))
		does(t, c, outRows("c", "S", 9, 1), with(c, func(b *api.Book) { b.Sheets[1].Cells[0].Text = at("[c]S!A10", 255) }), outRows("c", "S", 9, -1))
		does(t, cn, outRows("c", "S", 9, 1), with(cn, func(b *api.Book) { b.Names[0].Text = at("[c]S!A10", 255)[1:] }), outRows("c", "S", 9, -1))
	}
	// A cell that falls off counts ahead of a formula that gets too long.
	fails(t, made("S: A1 "+at("A9", 255)+" | A64 x"), rows("S", 9, 1), api.ErrRange)
	// A text that is no formula may have any bytes; what goes can't get too long.
	does(t, made("S: A1 "+bytesOf(255)), rows("S", 2, 1), made("S: A1 "+bytesOf(255)), rows("S", 2, -1))
	does(t, made("S: A2 "+at("A9+A1", 255)), rows("S", 1, -2), made("S:"), rows("S", 1, 2), set("S!A2", at("A9+A1", 255)))
	fails(t, made("S: A3 "+at("A9+A1", 255)), rows("S", 1, -2), api.ErrText)
	// The text of a name has room for a byte more than a cell's formula, and needs it not to be changed.
	full := made("S:", "n := "+padded("S!A9", 255))
	fails(t, full, rows("S", 9, -1), api.ErrText)
	does(t, full, rows("S", 10, -1), full, rows("S", 10, 1))
}

// Changes of other books' sheets: formulas follow, and links go where their cells go.

func TestOutRows(t *testing.T) {
	b := made("S: A3 =A3+[c]S!A3 | A4 =[c]T!A3 | A5 =[d]S!A3 | A6 =S!A3", "n := SUM([c]S!A1:A3)", "S.n := A3",
		"[b]S!A3 0", "[c]S!A1 1", "[c]S!A2 2", "[c]S!B2 3", "[c]S!A3 4", "[c]S!A4 5", "[c]S!A62 6", "[c]S!A63 7", "[c]S!A64 8", "[c]T!A3 9", "[d]S!A3 10")
	does(t, b, outRows("c", "S", 2, 2), made("S: A3 =A3+[c]S!A5 | A4 =[c]T!A3 | A5 =[d]S!A3 | A6 =S!A3", "n := SUM([c]S!A1:A5)", "S.n := A3",
		"[b]S!A3 0", "[c]S!A1 1", "[c]S!A4 2", "[c]S!B4 3", "[c]S!A5 4", "[c]S!A6 5", "[c]S!A64 6", "[c]T!A3 9", "[d]S!A3 10"),
		outRows("c", "S", 2, -2), cache("[c]S!A63", "7"), cache("[c]S!A64", "8"))
	does(t, b, outRows("c", "S", 2, -2), made("S: A3 =A3+#REF! | A4 =[c]T!A3 | A5 =[d]S!A3 | A6 =S!A3", "n := SUM([c]S!A1:A1)", "S.n := A3",
		"[b]S!A3 0", "[c]S!A1 1", "[c]S!A2 5", "[c]S!A60 6", "[c]S!A61 7", "[c]S!A62 8", "[c]T!A3 9", "[d]S!A3 10"),
		outRows("c", "S", 2, 2), set("S!A3", "=A3+[c]S!A3"), define("n", "SUM([c]S!A1:A3)"), cache("[c]S!A2", "2"), cache("[c]S!B2", "3"), cache("[c]S!A3", "4"))
	does(t, b, outRows("c", "T", 1, 1), made("S: A3 =A3+[c]S!A3 | A4 =[c]T!A4 | A5 =[d]S!A3 | A6 =S!A3", "n := SUM([c]S!A1:A3)", "S.n := A3",
		"[b]S!A3 0", "[c]S!A1 1", "[c]S!A2 2", "[c]S!B2 3", "[c]S!A3 4", "[c]S!A4 5", "[c]S!A62 6", "[c]S!A63 7", "[c]S!A64 8", "[c]T!A4 9", "[d]S!A3 10"), outRows("c", "T", 1, -1))
	does(t, b, outRows("e", "S", 1, 64), b, outRows("e", "S", 1, -64))
	does(t, b, outRows("c", "s", 1, -64), b, outRows("c", "s", 1, 64))
}

func TestOutCols(t *testing.T) {
	b := made("S: C3 =C1+[c]S!C1 | D3 =[c]T!C1 | E3 =[d]S!C1", "n := [c]S!C1",
		"[b]S!C1 0", "[c]S!A1 1", "[c]S!B1 2", "[c]S!C1 3", "[c]S!Z1 4", "[c]S!B2 5", "[c]S!Y2 6", "[c]T!C1 7", "[d]S!C1 8")
	does(t, b, outCols("c", "S", 2, 1), made("S: C3 =C1+[c]S!D1 | D3 =[c]T!C1 | E3 =[d]S!C1", "n := [c]S!D1",
		"[b]S!C1 0", "[c]S!A1 1", "[c]S!C1 2", "[c]S!D1 3", "[c]S!C2 5", "[c]S!Z2 6", "[c]T!C1 7", "[d]S!C1 8"),
		outCols("c", "S", 2, -1), cache("[c]S!Z1", "4"))
	does(t, b, outCols("c", "S", 2, -2), made("S: C3 =C1+#REF! | D3 =[c]T!C1 | E3 =[d]S!C1", "n := #REF!",
		"[b]S!C1 0", "[c]S!A1 1", "[c]S!X1 4", "[c]S!W2 6", "[c]T!C1 7", "[d]S!C1 8"),
		outCols("c", "S", 2, 2), set("S!C3", "=C1+[c]S!C1"), define("n", "[c]S!C1"), cache("[c]S!B1", "2"), cache("[c]S!C1", "3"), cache("[c]S!B2", "5"))
}

func TestOutDrop(t *testing.T) {
	b := made("S: C3 =C1+[c]S!C1 | D3 =[c]T!C1 | E3 =[d]S!C1+S!A1", "n := [c]S!C1:D9", "S.n := [c]S!C1",
		"[b]S!C1 0", "[c]S!A1 1", "[c]S!B64", "[c]T!C1 7", "[d]S!C1 8")
	does(t, b, outDrop("c", "S"), made("S: C3 =C1+#REF! | D3 =[c]T!C1 | E3 =[d]S!C1+S!A1", "n := #REF!", "S.n := #REF!", "[b]S!C1 0", "[c]T!C1 7", "[d]S!C1 8"),
		set("S!C3", "=C1+[c]S!C1"), define("n", "[c]S!C1:D9"), define("S.n", "[c]S!C1"), cache("[c]S!A1", "1"), cache("[c]S!B64", ""))
	does(t, b, outDrop("d", "S"), made("S: C3 =C1+[c]S!C1 | D3 =[c]T!C1 | E3 =#REF!+S!A1", "n := [c]S!C1:D9", "S.n := [c]S!C1", "[b]S!C1 0", "[c]S!A1 1", "[c]S!B64", "[c]T!C1 7"),
		set("S!E3", "=[d]S!C1+S!A1"), cache("[d]S!C1", "8"))
	does(t, b, outDrop("e", "S"), b)
	does(t, b, outDrop("c", "X"), b)
	// The shift of one that drops is not looked at.
	o := outDrop("e", "S")
	o.At, o.N = -7, math.MinInt
	does(t, b, o, b)
}

// The errors of other books' sheets, in their order.
func TestOutsideThatMayNotBe(t *testing.T) {
	long := made("S: A1 "+padded("=[c]S!A9+[c]T!A9", 255), "[c]S!A9 1")
	for _, b := range append(noNames(), "b") {
		for _, s := range []string{"S", "A1"} {
			for _, n := range []int{1, 0} {
				fails(t, long, outRows(b, s, 9, n), api.ErrArg)
				fails(t, long, outCols(b, s, 9, n), api.ErrArg)
			}
			fails(t, long, outDrop(b, s), api.ErrArg)
		}
	}
	for _, s := range noNames() {
		for _, n := range []int{1, 0} {
			fails(t, long, outRows("c", s, 9, n), api.ErrName)
			fails(t, long, outCols("c", s, 9, n), api.ErrName)
		}
		fails(t, long, outDrop("c", s), api.ErrName)
	}
	for _, x := range badLines(64) {
		fails(t, long, outRows("c", "S", x[0], x[1]), api.ErrRange)
	}
	for _, x := range badLines(26) {
		fails(t, long, outCols("c", "S", x[0], x[1]), api.ErrRange)
	}
	fails(t, long, outRows("c", "S", 9, 1), api.ErrText)
	fails(t, made("S: A1 "+padded("=[c]S!A9+[c]S!A8+[c]S!A7", 255)), outRows("c", "S", 7, 3), api.ErrText)
	// #REF! is shorter than what it stands for.
	same(t, len(shown(asked(book.Apply(long, "b", outDrop("c", "S"))).b)), len(shown(made("S: A1 "+padded("=#REF!+[c]T!A9", 253)))), "Apply of a drop")
	// The book's own name is what counts, not that there is a sheet.
	_, _, e := book.Apply(long, "c", outRows("c", "S", 9, 1))
	same(t, e, api.ErrArg, "Apply in c")
	_, _, e = book.Apply(long, "c", outRows("b", "S", 9, 1))
	same(t, e, api.OK, "Apply in c")
}

// heavy: a formula of 255 bytes that gets shorter where row 5 of a sheet goes, though refs become #REF! there, and would be too long, if all rows came back behind that.
func heavy(sheet string, n int) string {
	call := func(ref string, n int) string { return "SUM(" + strings.Repeat(ref+",", n-1) + ref + ")" }
	five, ten := sheet+"A5", sheet+"A10"
	return padded("=SUM("+strings.Join([]string{call(five, 4), call(ten, 12), call(ten, 12)}, ",")+")", n)
}

// Where the change that leads back would make a formula too long, it is taken away ahead of it, and put back behind.
func TestBackOfFormulasThatWouldGetTooLong(t *testing.T) {
	b := made("S: A1 "+heavy("", 255)+" | A2 =A5", "T: B2 "+heavy("S!", 255)+" | B3 x", "n := "+heavy("S!", 255)[1:], "S.n := "+heavy("", 255)[1:], "T.n := A1")
	after, back, e := book.Apply(b, "b", rows("S", 5, -1))
	same(t, e, api.OK, "Apply")
	does(t, b, rows("S", 5, -1), after,
		set("S!A1", ""), set("T!B2", ""), define("n", ""), define("S.n", ""), rows("S", 5, 1),
		set("S!A1", heavy("", 255)), set("S!A2", "=A5"), set("T!B2", heavy("S!", 255)), define("n", heavy("S!", 255)[1:]), define("S.n", heavy("", 255)[1:]))
	same(t, len(back), 10, "the way back")

	// The text of a name is too long to be changed, though it is what it was.
	was := padded("[c]S!A10", 255)
	b = made("S: A1 =[c]S!A5", "n := "+was, "[c]S!A5 1", "[c]S!A6 2")
	does(t, b, outRows("c", "S", 5, -1), made("S: A1 =#REF!", "n := "+strings.Replace(was, "A10", "A9", 1), "[c]S!A5 2"),
		define("n", ""), outRows("c", "S", 5, 1), set("S!A1", "=[c]S!A5"), define("n", was), cache("[c]S!A5", "1"))
	was = padded("S!A10", 255)
	does(t, made("S: E1 x", "n := "+was), rows("S", 5, -1), made("S: E1 x", "n := "+strings.Replace(was, "A10", "A9", 1)),
		define("n", ""), rows("S", 5, 1), define("n", was))

	// A sheet that comes: N!A1 is shorter than #REF!. What goes with the sheet needs not be taken away.
	long := padded("=N!A1", 255)
	does(t, made("S: A1 "+long+" | A2 =N!A1", "n := "+long[1:], "S.n := x"), add("N", 0, "A1 "+long),
		made("N: A1 "+long, "S: A1 "+long+" | A2 =N!A1", "n := "+long[1:], "S.n := x"),
		set("S!A1", ""), define("n", ""), drop("N"), set("S!A1", long), set("S!A2", "=N!A1"), define("n", long[1:]))

	// An area that ends with the sheet stays as it is where rows come, and not where they go.
	full := padded("S!A1:A64", 255)
	does(t, made("S: A1 x", "n := "+full), rows("S", 2, 1), made("S: A1 x", "n := "+full), define("n", ""), rows("S", 2, -1), define("n", full))
}
