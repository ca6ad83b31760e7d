package sheet_test

import (
	"math/rand"
	"slices"
	"strings"
	"testing"

	"octavo/api"
	"octavo/sheet"
)

// P12.2: Put

func TestPutOfTheExample(t *testing.T) {
	b := book(page("S"))
	got := asked(sheet.Put(b, "S", 1, 1, "=A2+1"))
	answers(t, got, book(page("S", cell(1, 1, "=A2+1"))), "Put")
	same(t, sheet.Get(got.b, "S", 1, 1), "=A2+1", "Get")
	refuses(t, asked(sheet.Put(b, "S", 1, 1, "=A2+")), api.ErrForm, "Put")
	refuses(t, asked(sheet.Put(b, "S", 65, 1, "x")), api.ErrRange, "Put")
	refuses(t, asked(sheet.Drop(b, "S")), api.ErrSheets, "Drop")
}

// putInto: sheet Jan of some, with these cells.
func putInto(l ...api.Cell) api.Book {
	b := some()
	b.Sheets[0].Cells = l
	return b
}

func TestPutOfTheFirst(t *testing.T) {
	for _, s := range goodTexts() {
		for _, p := range [][2]int{{1, 1}, {1, 26}, {64, 1}, {64, 26}, {30, 13}} {
			c := cell(p[0], p[1], s)
			answers(t, asked(sheet.Put(putInto(), "Jan", c.Row, c.Col, s)), putInto(c), "Put", c)
		}
	}
}

// TestPutInItsPlace: each cell of a sheet, put when the others are there: ahead of all, between two, behind all.
func TestPutInItsPlace(t *testing.T) {
	for _, l := range [][]api.Cell{some().Sheets[0].Cells, numbered(2), numbered(3), numbered(100)} {
		for i, c := range l {
			answers(t, asked(sheet.Put(putInto(slices.Concat(l[:i], l[i+1:])...), "Jan", c.Row, c.Col, c.Text)), putInto(l...), "Put", c)
		}
	}
}

// TestPutInTheOthersPlace: the text is another one, and all else stays.
func TestPutInTheOthersPlace(t *testing.T) {
	for _, l := range [][]api.Cell{some().Sheets[0].Cells, numbered(1), numbered(2), numbered(100)} {
		for i, c := range l {
			answers(t, asked(sheet.Put(putInto(l...), "Jan", c.Row, c.Col, c.Text)), putInto(l...), "Put of what is there", c)
			want := slices.Clone(l)
			want[i].Text = "=B7"
			answers(t, asked(sheet.Put(putInto(l...), "Jan", c.Row, c.Col, "=B7")), putInto(want...), "Put", c)
		}
	}
}

// TestPutOfTheEmptyText: the cell is blank, whether there was one or not.
func TestPutOfTheEmptyText(t *testing.T) {
	for _, l := range [][]api.Cell{some().Sheets[0].Cells, numbered(1), numbered(2), numbered(100)} {
		for i, c := range l {
			answers(t, asked(sheet.Put(putInto(l...), "Jan", c.Row, c.Col, "")), putInto(slices.Concat(l[:i], l[i+1:])...), "Put", c)
		}
		for _, p := range [][2]int{{1, 3}, {4, 26}, {6, 1}, {63, 26}, {64, 2}, {64, 25}} {
			l := slices.DeleteFunc(slices.Clone(l), func(c api.Cell) bool { return c.Row == p[0] && c.Col == p[1] })
			answers(t, asked(sheet.Put(putInto(l...), "Jan", p[0], p[1], "")), putInto(l...), "Put", p)
		}
	}
	answers(t, asked(sheet.Put(putInto(), "Jan", 1, 1, "")), putInto(), "Put")
}

// TestPutOfOneSheetAlone: cells of others that stand there stay.
func TestPutOfOneSheetAlone(t *testing.T) {
	three := func(a, b, c string) api.Book {
		return book(page("S", cell(2, 2, a)), page("s", cell(2, 2, b)), page("Sa", cell(2, 2, c)))
	}
	for i, n := range []string{"S", "s", "Sa"} {
		l := []string{"a", "b", "c"}
		l[i] = "new"
		answers(t, asked(sheet.Put(three("a", "b", "c"), n, 2, 2, "new")), three(l[0], l[1], l[2]), "Put", n)
	}
}

// TestPutOfAFullBook: what is no cell more is done, in each sheet; a cell more is not.
func TestPutOfAFullBook(t *testing.T) {
	for n := range api.MaxSheets {
		b := full(n + 1)
		for i, s := range b.Sheets {
			first, last := s.Cells[0], s.Cells[len(s.Cells)-1]
			for j, c := range map[int]api.Cell{0: first, len(s.Cells) - 1: last} {
				want := full(n + 1)
				want.Sheets[i].Cells[j].Text = "new"
				answers(t, asked(sheet.Put(b, s.Name, c.Row, c.Col, "new")), want, "Put", c)
				want.Sheets[i].Cells = slices.Delete(want.Sheets[i].Cells, j, j+1)
				got := asked(sheet.Put(b, s.Name, c.Row, c.Col, ""))
				answers(t, got, want, "Put of nothing", c)
				// There is room for one again, and for no more.
				got = asked(sheet.Put(got.b, s.Name, 64, 26, "new"))
				same(t, got.e, api.OK, "Put behind a Put of nothing", c)
				refuses(t, asked(sheet.Put(got.b, s.Name, c.Row, c.Col, c.Text)), api.ErrCells, "Put of one more", c)
			}
			for _, p := range [][2]int{{64, 26}, {9, 1}, {64, 1}} {
				refuses(t, asked(sheet.Put(b, s.Name, p[0], p[1], "new")), api.ErrCells, "Put of one more", s.Name, p)
				refuses(t, asked(sheet.Put(b, s.Name, p[0], p[1], "=A1")), api.ErrCells, "Put of one more", s.Name, p)
				answers(t, asked(sheet.Put(b, s.Name, p[0], p[1], "")), b, "Put of nothing", s.Name, p)
			}
		}
	}
	// Ahead of all, and between two.
	l := slices.DeleteFunc(numbered(api.MaxCells+2), func(c api.Cell) bool { return c.Row == 1 && c.Col == 1 || c.Row == 3 && c.Col == 3 })
	b := book(page("S", l...))
	right(t, b, "a full book")
	refuses(t, asked(sheet.Put(b, "S", 1, 1, "x")), api.ErrCells, "Put")
	refuses(t, asked(sheet.Put(b, "S", 3, 3, "x")), api.ErrCells, "Put")
	answers(t, asked(sheet.Put(b, "S", 1, 1, "")), b, "Put")
	answers(t, asked(sheet.Put(b, "S", 3, 3, "")), b, "Put")
	// The cells of all sheets count, those of an empty one's book too.
	b = book(page("S"), page("s", numbered(api.MaxCells)...))
	refuses(t, asked(sheet.Put(b, "S", 1, 1, "x")), api.ErrCells, "Put")
	b = book(page("S"), page("s", numbered(api.MaxCells-1)...))
	answers(t, asked(sheet.Put(b, "S", 1, 1, "x")), book(page("S", cell(1, 1, "x")), b.Sheets[1]), "Put of the last")
}

func TestPutOfLongTexts(t *testing.T) {
	for _, s := range longTexts() {
		refuses(t, asked(sheet.Put(some(), "Jan", 1, 1, s)), api.ErrText, "Put", len(s))
		refuses(t, asked(sheet.Put(some(), "Jan", 9, 9, s)), api.ErrText, "Put", len(s))
	}
}

func TestPutOfNoSheet(t *testing.T) {
	for _, n := range append(noNames(), "JAN", "Mar", "Jan_", "tax", "S") {
		refuses(t, asked(sheet.Put(some(), n, 1, 1, "x")), api.ErrNone, "Put", n)
		refuses(t, asked(sheet.Put(some(), n, 1, 1, "")), api.ErrNone, "Put", n)
	}
	refuses(t, asked(sheet.Put(api.Book{}, "S", 1, 1, "x")), api.ErrNone, "Put")
	refuses(t, asked(sheet.Put(book(), "", 1, 1, "x")), api.ErrNone, "Put")
}

func TestPutOutside(t *testing.T) {
	for _, p := range outside() {
		refuses(t, asked(sheet.Put(some(), "Jan", p[0], p[1], "x")), api.ErrRange, "Put", p)
		refuses(t, asked(sheet.Put(some(), "Jan", p[0], p[1], "")), api.ErrRange, "Put", p)
	}
	for _, p := range [][2]int{{1, 1}, {1, 26}, {64, 1}, {64, 26}} {
		same(t, asked(sheet.Put(some(), "Jan", p[0], p[1], "x")).e, api.OK, "Put", p)
	}
}

func TestPutOfNoFormula(t *testing.T) {
	for _, s := range noFormulas() {
		refuses(t, asked(sheet.Put(some(), "Jan", 1, 1, s)), api.ErrForm, "Put", s)
		refuses(t, asked(sheet.Put(some(), "Feb", 1, 1, s)), api.ErrForm, "Put", s)
	}
}

// TestPutOfManyErrors: the first one counts, of each set of them.
func TestPutOfManyErrors(t *testing.T) {
	for set := range 1 << 5 {
		has := func(i int) bool { return set>>i&1 == 1 }
		b, name, row, text := some(), "Jan", 9, "x"
		if has(4) {
			b = full(1)
			name = "S"
		}
		switch {
		case has(0) && has(3):
			text = "=" + strings.Repeat("(", 255)
		case has(0):
			text = strings.Repeat("x", 256)
		case has(3):
			text = "=A2+"
		}
		if has(1) {
			name = "Mar"
		}
		if has(2) {
			row = 65
		}
		want := api.OK
		for i, e := range []api.Errno{api.ErrText, api.ErrNone, api.ErrRange, api.ErrForm, api.ErrCells} {
			if has(i) {
				want = e
				break
			}
		}
		got := asked(sheet.Put(b, name, row, 9, text))
		if want == api.OK {
			same(t, got.e, want, "Put")
			continue
		}
		refuses(t, got, want, "Put", set)
	}
}

// TestPutIsAsTheModel: many, one behind the other, held against grids.
func TestPutIsAsTheModel(t *testing.T) {
	r := rand.New(rand.NewSource(4))
	counts := map[api.Errno]int{}
	for range 60 {
		b := anyBook(r)
		m := modelOf(b)
		for range 60 {
			name, c := b.Sheets[r.Intn(len(b.Sheets))].Name, wildCell(r)
			if l := b.Sheets[sheet.Index(b, name)].Cells; len(l) > 0 && r.Intn(2) == 0 {
				x := l[r.Intn(len(l))]
				c.Row, c.Col = x.Row, x.Col
			}
			want := api.OK
			switch {
			case len(c.Text) > 255:
				want = api.ErrText
			case c.Row < 1 || c.Row > 64 || c.Col < 1 || c.Col > 26:
				want = api.ErrRange
			case slices.Contains(noFormulas(), c.Text):
				want = api.ErrForm
			case c.Text != "" && m.grids[name][c.Row][c.Col] == "" && m.count() == 200:
				want = api.ErrCells
			}
			counts[want]++
			got := asked(sheet.Put(b, name, c.Row, c.Col, c.Text))
			if want != api.OK {
				refuses(t, got, want, "Put", name, c)
				continue
			}
			m.grids[name][c.Row][c.Col] = c.Text
			answers(t, got, m.laid(b), "Put", name, c)
			b = got.b
		}
	}
	for _, e := range []api.Errno{api.OK, api.ErrText, api.ErrRange, api.ErrForm, api.ErrCells} {
		if counts[e] < 20 {
			t.Fatalf("only %d answers %d", counts[e], e)
		}
	}
}
