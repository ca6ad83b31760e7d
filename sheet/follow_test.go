package sheet_test

import (
	"math/rand"
	"testing"

	"octavo/api"
	"octavo/sheet"
)

// change: one call that changes a book, with its arguments.
type change struct {
	what     string
	name     string
	row, col int
	at       int
	text     string
	cells    []api.Cell
}

// anyChange: of a sheet that is often there, with arguments that are often good.
func anyChange(r *rand.Rand, b api.Book) change {
	x := wildCell(r)
	c := change{what: []string{"Put", "Put", "Add", "Drop", "Move"}[r.Intn(5)], row: x.Row, col: x.Col, text: x.Text, at: r.Intn(7) - 1, cells: anyCells(r, 60)}
	c.name = wildNames[r.Intn(len(wildNames))]
	switch often := r.Intn(4) > 0; {
	case often && c.what == "Add":
		c.name = sheetNames()[r.Intn(len(sheetNames()))]
	case often && len(b.Sheets) > 0:
		c.name = b.Sheets[r.Intn(len(b.Sheets))].Name
	}
	if r.Intn(4) == 0 {
		c.cells = wildCells(r)
	}
	return c
}

// done: what b is behind the change.
func (c change) done(b api.Book) told {
	switch c.what {
	case "Put":
		return asked(sheet.Put(b, c.name, c.row, c.col, c.text))
	case "Add":
		return asked(sheet.Add(b, c.name, c.at, c.cells))
	case "Drop":
		return asked(sheet.Drop(b, c.name))
	}
	return asked(sheet.Move(b, c.name, c.at))
}

// P12.4

func TestCheckOfWhatIsAnswered(t *testing.T) {
	r := rand.New(rand.NewSource(9))
	done := map[string]int{}
	for range 300 {
		b := anyBook(r)
		right(t, b, "Check of what there is")
		for range 30 {
			c := anyChange(r, b)
			got := c.done(b)
			if got.e != api.OK {
				refuses(t, got, got.e, c.what, c)
				continue
			}
			right(t, got.b, "Check behind "+c.what, c)
			done[c.what]++
			b = got.b
		}
	}
	for _, what := range []string{"Put", "Add", "Drop", "Move"} {
		if done[what] < 200 {
			t.Fatalf("only %d of %s were done", done[what], what)
		}
	}
}

// TestGetBehindPut: the cell has that text, and all others have theirs.
func TestGetBehindPut(t *testing.T) {
	r := rand.New(rand.NewSource(10))
	for range 500 {
		b, x := anyBook(r), wildCell(r)
		name := b.Sheets[r.Intn(len(b.Sheets))].Name
		after, e := sheet.Put(b, name, x.Row, x.Col, x.Text)
		if e != api.OK {
			continue
		}
		same(t, sheet.Get(after, name, x.Row, x.Col), x.Text, "Get behind Put", name, x)
		for _, s := range b.Sheets {
			for _, c := range s.Cells {
				if s.Name != name || c.Row != x.Row || c.Col != x.Col {
					same(t, sheet.Get(after, s.Name, c.Row, c.Col), c.Text, "Get of another one behind Put", name, x, c)
				}
			}
		}
		// And back: the book is what it was.
		back, e := sheet.Put(after, name, x.Row, x.Col, sheet.Get(b, name, x.Row, x.Col))
		same(t, e, api.OK, "Put back", name, x)
		alike(t, back, b, "Put back", name, x)
	}
}

// TestPutUpToTheEnd: from no cells to MaxCells, in many orders, and back to none.
func TestPutUpToTheEnd(t *testing.T) {
	r := rand.New(rand.NewSource(11))
	l := numbered(api.MaxCells)
	for range 20 {
		b := book(page("S"), page("a"))
		for n, i := range r.Perm(len(l)) {
			var e api.Errno
			b, e = sheet.Put(b, "S", l[i].Row, l[i].Col, l[i].Text)
			same(t, e, api.OK, "Put", l[i])
			same(t, sheet.Count(b), n+1, "Count", l[i])
			right(t, b, "Check", l[i])
		}
		alike(t, b, book(page("S", l...), page("a")), "all cells")
		refuses(t, asked(sheet.Put(b, "a", 1, 1, "x")), api.ErrCells, "Put of one more")
		for _, i := range r.Perm(len(l)) {
			var e api.Errno
			b, e = sheet.Put(b, "S", l[i].Row, l[i].Col, "")
			same(t, e, api.OK, "Put", l[i])
			right(t, b, "Check", l[i])
		}
		alike(t, b, book(page("S"), page("a")), "no cells")
	}
}

// TestDropOfAddIsTheBook: and Move there and back.
func TestDropOfAddIsTheBook(t *testing.T) {
	r := rand.New(rand.NewSource(12))
	for range 500 {
		b := anyBook(r)
		s := b.Sheets[r.Intn(len(b.Sheets))].Name
		from := sheet.Index(b, s)
		after, e := sheet.Move(b, s, r.Intn(len(b.Sheets)))
		same(t, e, api.OK, "Move", s)
		answers(t, asked(sheet.Move(after, s, from)), b, "Move back", s)
		after, e = sheet.Add(b, "New", r.Intn(len(b.Sheets)+1), anyCells(r, 20))
		if e == api.OK {
			answers(t, asked(sheet.Drop(after, "New")), b, "Drop of Add")
		}
	}
}
