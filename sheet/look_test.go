package sheet_test

import (
	"math"
	"math/rand"
	"strings"
	"testing"

	"octavo/api"
	"octavo/formula"
	"octavo/sheet"
)

// P12.1: Index

func TestIndex(t *testing.T) {
	same(t, sheet.Index(api.Book{}, "S"), -1, "Index of no sheet")
	same(t, sheet.Index(book(), ""), -1, "Index of no sheet")
	same(t, sheet.Index(book(page("S")), "S"), 0, "Index")
	same(t, sheet.Index(book(page("S")), "s"), -1, "Index")
	var l []api.Sheet
	for _, n := range sheetNames() {
		l = append(l, page(n))
	}
	for i, n := range sheetNames() {
		same(t, sheet.Index(book(l...), n), i, "Index", n)
		same(t, sheet.Index(book(l[:i]...), n), -1, "Index", n)
		same(t, sheet.Index(book(l[i:]...), n), 0, "Index", n)
	}
	for _, n := range []string{"", "S ", " S", "S!", "SS", "tax", "She", "Sheet1", "SHEET"} {
		same(t, sheet.Index(book(l...), n), -1, "Index", n)
	}
}

// TestIndexOfSeveral: the first one counts, whatever it is called.
func TestIndexOfSeveral(t *testing.T) {
	for _, n := range append(noNames(), "S") {
		b := book(page("x"), page(n, cell(1, 1, "a")), page(n, cell(1, 1, "b")), page("y"), page(n))
		same(t, sheet.Index(b, n), 1, "Index", n)
		same(t, sheet.Get(b, n, 1, 1), "a", "Get", n)
	}
}

// P12.1: Get

func TestGet(t *testing.T) {
	b, m := some(), modelOf(some())
	for name, g := range m.grids {
		for row := range 65 {
			for col := range 27 {
				same(t, sheet.Get(b, name, row, col), g[row][col], "Get", name, row, col)
			}
		}
		for _, p := range outside() {
			same(t, sheet.Get(b, name, p[0], p[1]), "", "Get", name, p)
		}
	}
	same(t, sheet.Get(b, "Mar", 1, 1), "", "Get")
	same(t, sheet.Get(b, "", 1, 1), "", "Get")
	same(t, sheet.Get(b, "JAN", 1, 1), "", "Get")
	same(t, sheet.Get(api.Book{}, "S", 1, 1), "", "Get")
	same(t, sheet.Get(api.Book{}, "", 0, 0), "", "Get")
}

func TestGetOfTexts(t *testing.T) {
	for _, s := range goodTexts() {
		same(t, sheet.Get(book(page("S", cell(7, 8, s))), "S", 7, 8), s, "Get", s)
	}
}

// TestGetOfAnyOrder: cells that do not rise are found too, and of several the first one counts.
func TestGetOfAnyOrder(t *testing.T) {
	r := rand.New(rand.NewSource(1))
	for range 300 {
		l := numbered(60)
		r.Shuffle(len(l), func(i, j int) { l[i], l[j] = l[j], l[i] })
		b := book(page("S", append(l, cell(1, 1, "second"), cell(2, 2, "second"))...))
		for _, c := range l {
			same(t, sheet.Get(b, "S", c.Row, c.Col), c.Text, "Get", c)
		}
	}
	b := book(page("S", cell(9, 9, "a"), cell(1, 1, ""), cell(1, 1, "b")))
	same(t, sheet.Get(b, "S", 1, 1), "", "Get of the first one, which is empty")
}

// P12.1: Count

func TestCount(t *testing.T) {
	same(t, sheet.Count(api.Book{}), 0, "Count")
	same(t, sheet.Count(book()), 0, "Count")
	same(t, sheet.Count(book(page("S"))), 0, "Count")
	same(t, sheet.Count(some()), 9, "Count")
	for n := range 250 {
		same(t, sheet.Count(book(page("S", numbered(n)...))), n, "Count", n)
		same(t, sheet.Count(book(page("S", numbered(n)...), page("a"), page("b", numbered(7)...))), n+7, "Count", n)
	}
	for n := range api.MaxSheets {
		same(t, sheet.Count(full(n+1)), api.MaxCells, "Count", n)
	}
	// Those of sheets of one name are counted too, and what may not be.
	same(t, sheet.Count(book(page("S", cell(1, 1, "x")), page("S", cell(1, 1, "x"), cell(1, 1, ""), cell(0, 99, "=")))), 4, "Count")
}

// P12.1: May

func TestMay(t *testing.T) {
	same(t, sheet.May(""), api.OK, "May")
	for _, s := range goodTexts() {
		same(t, sheet.May(s), api.OK, "May", s)
	}
	for _, s := range longTexts() {
		same(t, sheet.May(s), api.ErrText, "May", len(s))
	}
	for _, s := range noFormulas() {
		same(t, sheet.May(s), api.ErrForm, "May", s)
		// Only what begins with = is a formula.
		if len(s) < api.MaxText {
			same(t, sheet.May(" "+s), api.OK, "May", s)
			same(t, sheet.May("'"+s), api.OK, "May", s)
		}
	}
}

func TestMayOfLengths(t *testing.T) {
	for n := range 300 {
		want, form := api.OK, api.ErrForm
		if n > 255 {
			want, form = api.ErrText, api.ErrText
		}
		same(t, sheet.May(strings.Repeat("x", n)), want, "May", n)
		if n >= 2 {
			same(t, sheet.May("="+strings.Repeat(" ", n-2)+"1"), want, "May", n)
			same(t, sheet.May("="+strings.Repeat(" ", n-2)+"+"), form, "May", n)
		}
	}
}

// TestMayIsAsParse: of any texts of few characters.
func TestMayIsAsParse(t *testing.T) {
	r := rand.New(rand.NewSource(2))
	const set = `A1B2+-*%(),:!"= #x_&<`
	taken := 0
	for range 50000 {
		s := make([]byte, r.Intn(7))
		for i := range s {
			s[i] = set[r.Intn(len(set))]
		}
		want := api.OK
		if _, e := formula.Parse(string(s)); e != api.OK {
			want = api.ErrForm
		} else {
			taken++
		}
		same(t, sheet.May("="+string(s)), want, "May", string(s))
	}
	if taken < 1000 {
		t.Fatalf("only %d are formulas", taken)
	}
}

// P12.3: In

// boxes: of one cell, of a row, of a column, of all, of ends turned round, and of what lies partly or wholly outside.
func boxes() [][4]int {
	ends := []int{math.MinInt, -1, 0, 1, 2, 3, 5, 25, 26, 27, 63, 64, 65, math.MaxInt}
	var l [][4]int
	for _, r1 := range ends {
		for _, c1 := range ends {
			for _, r2 := range ends {
				for _, c2 := range ends {
					l = append(l, [4]int{r1, c1, r2, c2})
				}
			}
		}
	}
	return l
}

// within: those of l that lie in a box.
func within(l []api.Cell, x [4]int) []api.Cell {
	var in []api.Cell
	for _, c := range l {
		if x[0] <= c.Row && x[1] <= c.Col && c.Row <= x[2] && c.Col <= x[3] {
			in = append(in, c)
		}
	}
	return in
}

func TestInOfTheEnds(t *testing.T) {
	b := some()
	b.Sheets[1].Cells = numbered(100)
	for _, x := range boxes() {
		for _, s := range b.Sheets {
			alikeCells(t, sheet.In(b, s.Name, x[0], x[1], x[2], x[3]), within(s.Cells, x), "In", s.Name, x)
		}
		same(t, len(sheet.In(b, "Mar", x[0], x[1], x[2], x[3])), 0, "In", x)
		same(t, len(sheet.In(book(page("S")), "S", x[0], x[1], x[2], x[3])), 0, "In", x)
	}
}

func TestIn(t *testing.T) {
	l := some().Sheets[0].Cells
	in := func(r1, c1, r2, c2 int, want ...api.Cell) {
		t.Helper()
		alikeCells(t, sheet.In(some(), "Jan", r1, c1, r2, c2), want, "In", r1, c1, r2, c2)
	}
	in(1, 1, 64, 26, l...)
	in(0, 0, 100, 100, l...)
	in(math.MinInt, math.MinInt, math.MaxInt, math.MaxInt, l...)
	in(1, 1, 1, 1, l[0])
	in(1, 2, 1, 2, l[1])
	in(1, 3, 1, 3)
	in(64, 26, 64, 26, l[7])
	in(1, 1, 1, 26, l[:3]...)
	in(5, 1, 5, 26, l[4], l[5])
	in(64, 1, 64, 26, l[6], l[7])
	in(1, 1, 64, 1, l[0], l[3], l[6])
	in(1, 26, 64, 26, l[2], l[7])
	in(1, 2, 5, 3, l[1], l[4])
	in(2, 1, 5, 2, l[3])
	in(60, 20, 70, 30, l[7])
	in(-5, -5, 1, 1, l[0])
	in(65, 1, 70, 26)
	in(1, 27, 64, 30)
	in(-9, 1, 0, 26)
	// With the ends turned round there is no row, or no column, from the one to the other.
	in(64, 1, 1, 26)
	in(1, 26, 64, 1)
	in(64, 26, 1, 1)
	in(5, 4, 1, 1)
	in(2, 1, 1, 26)
	in(1, 2, 64, 1)
	in(math.MaxInt, math.MaxInt, math.MinInt, math.MinInt)
	same(t, len(sheet.In(api.Book{}, "", 1, 1, 64, 26)), 0, "In of no book")
}

// TestInOfEachCell: of a full sheet, each cell is a box of its own.
func TestInOfEachCell(t *testing.T) {
	b := full(1)
	for _, c := range numbered(api.MaxCells) {
		alikeCells(t, sheet.In(b, "S", c.Row, c.Col, c.Row, c.Col), []api.Cell{c}, "In", c)
	}
}

func TestInOfAnyBooks(t *testing.T) {
	r := rand.New(rand.NewSource(3))
	for range 300 {
		b := anyBook(r)
		m := modelOf(b)
		for range 10 {
			name := b.Sheets[r.Intn(len(b.Sheets))].Name
			r1, c1, r2, c2 := r.Intn(70)-2, r.Intn(30)-2, r.Intn(70)-2, r.Intn(30)-2
			alikeCells(t, sheet.In(b, name, r1, c1, r2, c2), m.grids[name].cells(r1, c1, r2, c2), "In", name, r1, c1, r2, c2)
		}
	}
}
