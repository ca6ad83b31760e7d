package sheet_test

import (
	"fmt"
	"math"
	"math/rand"
	"strings"
	"testing"

	"octavo/api"
	"octavo/sheet"
)

// oddBooks: with lists that are nil, empty and long, and texts that may not be.
func oddBooks() []api.Book {
	huge := strings.Repeat("\xff", 1<<16)
	return []api.Book{
		{}, {Sheets: []api.Sheet{}}, book(), book(api.Sheet{}), book(make([]api.Sheet, 3000)...), some(), full(4),
		book(page("S", make([]api.Cell, 3000)...)),
		book(page(huge, cell(math.MinInt, math.MaxInt, huge), cell(1, 1, "="+strings.Repeat("(", 1<<16)))),
		{Names: make([]api.Name, 100), Links: make([]api.Link, 100)},
	}
}

// all: what every call answers, told to see.
func all(see func(what, answer string)) {
	r := rand.New(rand.NewSource(13))
	books := oddBooks()
	for range 300 {
		books = append(books, wildBook(r), anyBook(r))
	}
	ends := []int{math.MinInt, -1, 0, 1, 5, 26, 64, 65, math.MaxInt}
	for i, b := range books {
		for j := range 4 {
			c := anyChange(r, b)
			r1, c1, r2, c2 := ends[r.Intn(9)], ends[r.Intn(9)], ends[r.Intn(9)], ends[r.Intn(9)]
			s := fmt.Sprint(sheet.Index(b, c.name), sheet.Count(b), sheet.Check(b), sheet.May(c.text), sheet.Get(b, c.name, c.row, c.col), sheet.In(b, c.name, r1, c1, r2, c2), sheet.Same(b, books[r.Intn(len(books))]))
			for _, what := range []string{"Put", "Add", "Drop", "Move"} {
				c.what = what
				got := c.done(b)
				s += shown(got.b) + got.e.Error()
			}
			see(fmt.Sprint(i, " ", j), short(s+shown(sheet.Copy(b))))
		}
	}
}

// short: a text that is long, as its length and a sum of it all.
func short(s string) string {
	if len(s) < 200 {
		return s
	}
	sum := uint64(14695981039346656037)
	for _, c := range []byte(s) {
		sum = (sum ^ uint64(c)) * 1099511628211
	}
	return fmt.Sprint(len(s), " ", sum)
}

// R1, R4: nothing panics, also of books that are not right, and the same arguments are answered the same.

func TestCallsAnswerTheSameAgain(t *testing.T) {
	was := map[string]string{}
	all(func(what, answer string) { was[what] = answer })
	all(func(what, answer string) {
		if was[what] != answer {
			t.Fatalf("%s: %s, then %s", what, was[what], answer)
		}
	})
	if len(was) < 2400 {
		t.Fatalf("only %d calls", len(was))
	}
}

// R2, R7: beside an error, and where there is none, there is nothing.

func TestBesideAnErrorIsNothing(t *testing.T) {
	r := rand.New(rand.NewSource(14))
	refused := map[string]int{}
	for range 6000 {
		b := wildBook(r)
		c := anyChange(r, b)
		if got := c.done(b); got.e != api.OK {
			refuses(t, got, got.e, c.what, c)
			refused[c.what]++
		}
		if sheet.Index(b, c.name) < 0 {
			same(t, sheet.Get(b, c.name, c.row, c.col), "", "Get", c)
			same(t, len(sheet.In(b, c.name, 1, 1, 64, 26)), 0, "In", c)
		}
	}
	for _, what := range []string{"Put", "Add", "Drop", "Move"} {
		if refused[what] < 200 {
			t.Fatalf("only %d of %s were refused", refused[what], what)
		}
	}
}

// behind: what lies in the room behind the lists' ends.
var behind = cell(9, 9, "behind")

// roomyList: l with room behind its end, which is filled.
func roomyList[T any](l []T, behind T) []T {
	with := append(make([]T, 0, len(l)+3), l...)
	with = append(with, behind, behind, behind)
	return with[:len(l)]
}

// roomy: a book with room behind each list's end. The sheets there have cells too.
func roomy(b api.Book) api.Book {
	b.Sheets = roomyList(b.Sheets, page("Behind", behind))
	for i, s := range b.Sheets[:cap(b.Sheets)] {
		b.Sheets[:cap(b.Sheets)][i].Cells = roomyList(s.Cells, behind)
	}
	b.Names = roomyList(b.Names, api.Name{Name: "behind"})
	b.Links = roomyList(b.Links, api.Link{Book: "behind"})
	return b
}

// whole: a book with what lies behind its lists' ends, as a text.
func whole(b api.Book) string {
	sheets := append([]api.Sheet{}, b.Sheets[:cap(b.Sheets)]...)
	for i, s := range sheets {
		sheets[i].Cells = s.Cells[:cap(s.Cells)]
	}
	return shown(api.Book{Sheets: sheets, Names: b.Names[:cap(b.Names)], Links: b.Links[:cap(b.Links)]})
}

// scribbleCells: l is written over, with its spare room.
func scribbleCells(l []api.Cell) {
	l = l[:cap(l)]
	for i := range l {
		l[i] = cell(8, 8, "changed")
	}
}

// scribble: all lists of a book are written over, with their spare room.
func scribble(b api.Book) {
	for i, s := range b.Sheets[:cap(b.Sheets)] {
		scribbleCells(s.Cells)
		b.Sheets[:cap(b.Sheets)][i] = page("Changed")
	}
	for i := range b.Names[:cap(b.Names)] {
		b.Names[:cap(b.Names)][i] = api.Name{Name: "changed"}
	}
	for i := range b.Links[:cap(b.Links)] {
		b.Links[:cap(b.Links)][i] = api.Link{Book: "changed"}
	}
}

// changes: each call that answers a book, done with b, with arguments that are mostly good.
func changes(r *rand.Rand, b api.Book) map[string]func(b api.Book, l []api.Cell) told {
	name, at := b.Sheets[r.Intn(len(b.Sheets))].Name, r.Intn(len(b.Sheets))
	x := cell(1+r.Intn(64), 1+r.Intn(26), "new")
	there := x
	if l := b.Sheets[sheet.Index(b, name)].Cells; len(l) > 0 {
		there = l[r.Intn(len(l))]
	}
	return map[string]func(b api.Book, l []api.Cell) told{
		"Put":              func(b api.Book, _ []api.Cell) told { return asked(sheet.Put(b, name, x.Row, x.Col, x.Text)) },
		"Put where one is": func(b api.Book, _ []api.Cell) told { return asked(sheet.Put(b, name, there.Row, there.Col, "new")) },
		"Put of what is": func(b api.Book, _ []api.Cell) told {
			return asked(sheet.Put(b, name, there.Row, there.Col, there.Text))
		},
		"Put of nothing":    func(b api.Book, _ []api.Cell) told { return asked(sheet.Put(b, name, there.Row, there.Col, "")) },
		"Put of no formula": func(b api.Book, _ []api.Cell) told { return asked(sheet.Put(b, name, x.Row, x.Col, "=1+")) },
		"Add":               func(b api.Book, l []api.Cell) told { return asked(sheet.Add(b, "New", at, l)) },
		"Add at the end":    func(b api.Book, l []api.Cell) told { return asked(sheet.Add(b, "New", len(b.Sheets), l)) },
		"Add of no name":    func(b api.Book, l []api.Cell) told { return asked(sheet.Add(b, "A1", at, l)) },
		"Drop":              func(b api.Book, _ []api.Cell) told { return asked(sheet.Drop(b, name)) },
		"Move":              func(b api.Book, _ []api.Cell) told { return asked(sheet.Move(b, name, at)) },
		"Move to no place":  func(b api.Book, _ []api.Cell) told { return asked(sheet.Move(b, name, len(b.Sheets))) },
		"Copy":              func(b api.Book, _ []api.Cell) told { return told{sheet.Copy(b), api.OK} },
		"In": func(b api.Book, _ []api.Cell) told {
			return told{book(page("in", sheet.In(b, name, 1, 1, 64, 26)...)), api.OK}
		},
		"In of one": func(b api.Book, _ []api.Cell) told {
			return told{book(page("in", sheet.In(b, name, there.Row, there.Col, there.Row, there.Col)...)), api.OK}
		},
	}
}

// R3: what is handed in is not changed, nor what lies behind its end.

func TestCallsChangeNothing(t *testing.T) {
	r := rand.New(rand.NewSource(15))
	for range 300 {
		b, l := roomy(anyBook(r)), roomyList(anyCells(r, 20), behind)
		was, wasCells := whole(b), fmt.Sprint(l[:cap(l)])
		for what, do := range changes(r, b) {
			do(b, l)
			same(t, whole(b), was, what)
			same(t, fmt.Sprint(l[:cap(l)]), wasCells, what)
		}
		sheet.Index(b, "S")
		sheet.Get(b, "S", 1, 1)
		sheet.Count(b)
		sheet.Check(b)
		sheet.Same(b, b)
		same(t, whole(b), was, "Index, Get, Count, Check, Same")
	}
}

// R3: an answer is new memory, with its spare room; what is done with it or with what was handed in is not seen in the other.

func TestAnswersAreNewMemory(t *testing.T) {
	r := rand.New(rand.NewSource(16))
	for range 200 {
		first, cells := anyBook(r), anyCells(r, 20)
		for what, do := range changes(r, first) {
			b, l := roomy(first), roomyList(cells, behind)
			was, wasCells := whole(b), fmt.Sprint(l[:cap(l)])
			one, two := do(b, l), do(b, l)
			answer := shown(one.b)
			scribble(two.b)
			same(t, whole(b), was, what+", and its answer is changed")
			same(t, fmt.Sprint(l[:cap(l)]), wasCells, what+", and its answer is changed")
			same(t, shown(one.b), answer, what+", and another answer is changed")
			scribble(b)
			scribbleCells(l)
			same(t, shown(one.b), answer, what+", and what was handed in is changed")
		}
	}
}

// R3: no two lists of one answer share memory, their spare room neither: each item is given a number of its own, which it keeps.

func TestListsOfAnAnswerShareNothing(t *testing.T) {
	r := rand.New(rand.NewSource(17))
	for range 300 {
		b := anyBook(r)
		for what, do := range changes(r, b) {
			got := do(b, anyCells(r, 20)).b
			n := 0
			for round := range 2 {
				n = 0
				for i, s := range got.Sheets[:cap(got.Sheets)] {
					for j := range s.Cells[:cap(s.Cells)] {
						if n++; round == 0 {
							s.Cells[:cap(s.Cells)][j].Row = n
						}
						same(t, s.Cells[:cap(s.Cells)][j].Row, n, what, i, j)
					}
				}
			}
		}
	}
}
