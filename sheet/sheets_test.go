package sheet_test

import (
	"math"
	"math/rand"
	"slices"
	"testing"

	"octavo/api"
	"octavo/sheet"
)

// named: a book of n sheets, each with a cell of its own.
func named(n int) api.Book {
	b := book()
	for i, s := range sheetNames()[:n] {
		b.Sheets = append(b.Sheets, page(s, cell(i+1, i+1, s)))
	}
	return b
}

// P12.2: Add

// TestAdd: at each place of a book with no sheet, with one and with more, with cells and without.
func TestAdd(t *testing.T) {
	for n := range api.MaxSheets {
		b := named(n)
		for at := range n + 1 {
			for _, l := range [][]api.Cell{nil, {}, {cell(7, 7, "=A1")}, some().Sheets[0].Cells, numbered(150)} {
				want := named(n)
				want.Sheets = slices.Insert(want.Sheets, at, page("New", l...))
				got := asked(sheet.Add(b, "New", at, l))
				answers(t, got, want, "Add", n, at)
				same(t, sheet.Index(got.b, "New"), at, "Index behind Add", n, at)
			}
		}
	}
}

func TestAddOfGoodNames(t *testing.T) {
	for _, n := range append(sheetNames(), "Feb", "JAN", "jan", "janu", "tax") {
		b := book(page("Jan"))
		answers(t, asked(sheet.Add(b, n, 1, nil)), book(page("Jan"), page(n)), "Add", n)
	}
}

func TestAddOfNoNames(t *testing.T) {
	for _, n := range noNames() {
		refuses(t, asked(sheet.Add(some(), n, 0, nil)), api.ErrName, "Add", n)
		refuses(t, asked(sheet.Add(some(), n, 3, numbered(5))), api.ErrName, "Add", n)
		// One that is there already is no good name still.
		refuses(t, asked(sheet.Add(book(page(n)), n, 0, nil)), api.ErrName, "Add", n)
	}
}

func TestAddOfOneThatIsThere(t *testing.T) {
	for n := range api.MaxSheets + 1 {
		for _, s := range named(n).Sheets {
			for at := range n + 1 {
				refuses(t, asked(sheet.Add(named(n), s.Name, at, nil)), api.ErrExists, "Add", s.Name, at)
				refuses(t, asked(sheet.Add(named(n), s.Name, at, s.Cells)), api.ErrExists, "Add", s.Name, at)
			}
		}
	}
}

func TestAddAtNoPlace(t *testing.T) {
	for n := range 6 {
		for _, at := range []int{-1, -2, n + 1, n + 2, 100, math.MaxInt, math.MinInt} {
			refuses(t, asked(sheet.Add(named(n), "New", at, nil)), api.ErrRange, "Add", n, at)
			refuses(t, asked(sheet.Add(named(n), "New", at, numbered(3))), api.ErrRange, "Add", n, at)
		}
	}
}

// TestAddOfCellsThatMayNotBe: all that Check asks of a sheet's cells, a text's length and form too, is asked by Add as ErrRange.
func TestAddOfCellsThatMayNotBe(t *testing.T) {
	wrong := func(l ...api.Cell) {
		t.Helper()
		for n := range api.MaxSheets + 2 {
			refuses(t, asked(sheet.Add(named(n), "New", n, l)), api.ErrRange, "Add", n, l)
			refuses(t, asked(sheet.Add(named(n), "New", 0, l)), api.ErrRange, "Add", n, l)
		}
	}
	for _, p := range outside() {
		wrong(cell(p[0], p[1], "x"))
	}
	for _, s := range slices.Concat(noFormulas(), longTexts(), []string{""}) {
		wrong(cell(1, 1, s))
		wrong(cell(1, 1, "x"), cell(1, 2, s))
		wrong(cell(1, 1, s), cell(1, 2, "x"))
	}
	wrong(cell(1, 1, "x"), cell(1, 1, "x"))
	wrong(cell(1, 1, "x"), cell(1, 1, "y"))
	wrong(cell(1, 2, "x"), cell(1, 1, "x"))
	wrong(cell(2, 1, "x"), cell(1, 2, "x"))
	wrong(cell(1, 1, "x"), cell(2, 2, "x"), cell(2, 1, "x"))
	l := numbered(250)
	slices.Reverse(l)
	wrong(l...)
	for i := range 20 {
		for _, c := range []api.Cell{cell(1, i+1, ""), cell(1, i+1, "="), cell(0, 1, "x"), cell(65, 1, "x")} {
			l := numbered(20)
			l[i] = c
			wrong(l...)
		}
	}
}

// TestAddOfTooManySheets: when there are MaxSheets, or more.
func TestAddOfTooManySheets(t *testing.T) {
	for n := api.MaxSheets; n < 8; n++ {
		for at := range n + 1 {
			refuses(t, asked(sheet.Add(named(n), "New", at, nil)), api.ErrSheets, "Add", n, at)
			refuses(t, asked(sheet.Add(named(n), "New", at, numbered(1))), api.ErrSheets, "Add", n, at)
		}
	}
}

// TestAddOfTooManyCells: those of the book and those that come count together.
func TestAddOfTooManyCells(t *testing.T) {
	for _, was := range []int{0, 1, 2, 100, 199, 200} {
		b := book(page("a", numbered(was/2)...), page("b", numbered(was-was/2)...))
		for _, more := range []int{0, 1, 2, 99, 100, 101, 199, 200, 201, 250, 1664} {
			got := asked(sheet.Add(b, "New", 1, numbered(more)))
			if was+more > api.MaxCells {
				refuses(t, got, api.ErrCells, "Add", was, more)
				continue
			}
			answers(t, got, book(b.Sheets[0], page("New", numbered(more)...), b.Sheets[1]), "Add", was, more)
		}
	}
	// More than MaxCells are too many, even if none comes.
	refuses(t, asked(sheet.Add(book(page("a", numbered(201)...)), "New", 1, nil)), api.ErrCells, "Add")
}

// TestAddOfManyErrors: the first one counts, of each set of them.
func TestAddOfManyErrors(t *testing.T) {
	for set := range 1 << 6 {
		has := func(i int) bool { return set>>i&1 == 1 }
		b, name, at, l := named(2), "New", 0, numbered(2)
		if has(4) {
			b = named(5)
		}
		if has(0) {
			name = "A1"
		}
		if has(1) {
			b.Sheets[1].Name = name
		}
		if has(2) {
			at = 6
		}
		if has(5) {
			b.Sheets[0].Cells = numbered(199)
		}
		if has(3) {
			l = []api.Cell{cell(1, 1, "=("), cell(1, 1, "=(")}
		}
		want := api.OK
		for i, e := range []api.Errno{api.ErrName, api.ErrExists, api.ErrRange, api.ErrRange, api.ErrSheets, api.ErrCells} {
			if has(i) {
				want = e
				break
			}
		}
		got := asked(sheet.Add(b, name, at, l))
		if want == api.OK {
			same(t, got.e, want, "Add")
			continue
		}
		refuses(t, got, want, "Add", set)
	}
}

// P12.2: Drop

// TestDrop: of each sheet of books with two and more.
func TestDrop(t *testing.T) {
	for n := 2; n < 7; n++ {
		for i, s := range named(n).Sheets {
			want := named(n)
			want.Sheets = slices.Delete(want.Sheets, i, i+1)
			got := asked(sheet.Drop(named(n), s.Name))
			answers(t, got, want, "Drop", n, i)
			same(t, sheet.Index(got.b, s.Name), -1, "Index behind Drop", n, i)
		}
	}
	// Its names and its links stay.
	b := book(page("S", numbered(9)...), page("a"))
	answers(t, asked(sheet.Drop(b, "S")), book(page("a")), "Drop")
}

func TestDropOfTheOnlySheet(t *testing.T) {
	refuses(t, asked(sheet.Drop(book(page("S")), "S")), api.ErrSheets, "Drop")
	refuses(t, asked(sheet.Drop(book(page("S", numbered(9)...)), "S")), api.ErrSheets, "Drop")
	for _, n := range noNames() {
		refuses(t, asked(sheet.Drop(book(page(n)), n)), api.ErrSheets, "Drop", n)
	}
}

func TestDropOfNone(t *testing.T) {
	for n := range 6 {
		for _, s := range append(noNames(), "New", "tax", "SHEET", "S__") {
			refuses(t, asked(sheet.Drop(named(n), s)), api.ErrNone, "Drop", n, s)
		}
	}
	refuses(t, asked(sheet.Drop(api.Book{}, "")), api.ErrNone, "Drop")
}

// TestDropOfSeveral: the first one goes.
func TestDropOfSeveral(t *testing.T) {
	b := book(page("a"), page("S", cell(1, 1, "x")), page("S", cell(1, 1, "y")), page("b"))
	answers(t, asked(sheet.Drop(b, "S")), book(page("a"), page("S", cell(1, 1, "y")), page("b")), "Drop")
	answers(t, asked(sheet.Drop(book(page("S", cell(1, 1, "x")), page("S")), "S")), book(page("S")), "Drop")
}

// P12.2: Move

// TestMove: of each sheet to each place.
func TestMove(t *testing.T) {
	for n := range 7 {
		for i, s := range named(n).Sheets {
			for at := range n {
				var want []api.Sheet
				for j, other := range named(n).Sheets {
					if j != i {
						want = append(want, other)
					}
				}
				want = slices.Concat(want[:at], []api.Sheet{s}, want[at:])
				got := asked(sheet.Move(named(n), s.Name, at))
				answers(t, got, book(want...), "Move", n, i, at)
				same(t, sheet.Index(got.b, s.Name), at, "Index behind Move", n, i, at)
			}
		}
	}
}

func TestMoveOfThree(t *testing.T) {
	a, b, c := page("a", numbered(3)...), page("b"), page("c", cell(9, 9, "x"))
	for _, x := range []struct {
		name string
		at   int
		want api.Book
	}{
		{"a", 0, book(a, b, c)}, {"a", 1, book(b, a, c)}, {"a", 2, book(b, c, a)},
		{"b", 0, book(b, a, c)}, {"b", 1, book(a, b, c)}, {"b", 2, book(a, c, b)},
		{"c", 0, book(c, a, b)}, {"c", 1, book(a, c, b)}, {"c", 2, book(a, b, c)},
	} {
		answers(t, asked(sheet.Move(book(a, b, c), x.name, x.at)), x.want, "Move", x.name, x.at)
	}
}

func TestMoveToNoPlace(t *testing.T) {
	for n := 1; n < 6; n++ {
		for _, s := range named(n).Sheets {
			for _, at := range []int{-1, -2, n, n + 1, 100, math.MaxInt, math.MinInt} {
				refuses(t, asked(sheet.Move(named(n), s.Name, at)), api.ErrRange, "Move", n, s.Name, at)
			}
		}
	}
}

func TestMoveOfNone(t *testing.T) {
	for n := range 6 {
		for _, s := range append(noNames(), "New", "tax", "SHEET", "S__") {
			for _, at := range []int{-1, 0, 1, n - 1, n, n + 1, math.MaxInt, math.MinInt} {
				refuses(t, asked(sheet.Move(named(n), s, at)), api.ErrNone, "Move", n, s, at)
			}
		}
	}
}

// TestMoveOfSeveral: the first one moves.
func TestMoveOfSeveral(t *testing.T) {
	x, y := page("S", cell(1, 1, "x")), page("S", cell(1, 1, "y"))
	answers(t, asked(sheet.Move(book(x, page("a"), y), "S", 2)), book(page("a"), y, x), "Move")
	answers(t, asked(sheet.Move(book(page("a"), x, y), "S", 0)), book(x, page("a"), y), "Move")
}

// TestSheetsAreAsTheModel: many changes of sheets, one behind the other, held against lists of names.
func TestSheetsAreAsTheModel(t *testing.T) {
	r := rand.New(rand.NewSource(5))
	counts := map[api.Errno]int{}
	b := named(1)
	m := modelOf(b)
	for range 4000 {
		name, at := sheetNames()[r.Intn(len(sheetNames()))], r.Intn(7)-1
		i := slices.Index(m.names, name)
		want, got := api.OK, told{}
		after := slices.Clone(m.names)
		switch r.Intn(3) {
		case 0:
			l := anyCells(r, 100)
			got = asked(sheet.Add(b, name, at, l))
			switch {
			case i >= 0:
				want = api.ErrExists
			case at < 0 || at > len(after):
				want = api.ErrRange
			case len(after) == 4:
				want = api.ErrSheets
			case m.count()+len(l) > 200:
				want = api.ErrCells
			default:
				after = slices.Insert(after, at, name)
				m.grids[name] = gridOf(l)
			}
		case 1:
			got = asked(sheet.Drop(b, name))
			switch {
			case i < 0:
				want = api.ErrNone
			case len(after) == 1:
				want = api.ErrSheets
			default:
				after = slices.Delete(after, i, i+1)
				delete(m.grids, name)
			}
		case 2:
			got = asked(sheet.Move(b, name, at))
			switch {
			case i < 0:
				want = api.ErrNone
			case at < 0 || at >= len(after):
				want = api.ErrRange
			default:
				after = slices.Insert(slices.Delete(after, i, i+1), at, name)
			}
		}
		counts[want]++
		if want != api.OK {
			refuses(t, got, want, "a change", name, at)
			continue
		}
		m.names = after
		answers(t, got, m.laid(b), "a change", name, at)
		b = got.b
	}
	for _, e := range []api.Errno{api.OK, api.ErrExists, api.ErrRange, api.ErrSheets, api.ErrCells, api.ErrNone} {
		if counts[e] < 20 {
			t.Fatalf("only %d answers %d", counts[e], e)
		}
	}
}
