package sheet_test

import (
	"math/rand"
	"slices"
	"strings"
	"testing"

	"octavo/api"
	"octavo/sheet"
)

// P12.3: Check

func TestCheck(t *testing.T) {
	right(t, some(), "Check")
	right(t, api.Book{Sheets: []api.Sheet{page("S")}}, "Check")
	for n := range api.MaxSheets {
		right(t, named(n+1), "Check", n)
		right(t, full(n+1), "Check", n)
	}
	for n := range api.MaxCells + 1 {
		right(t, book(page("S", numbered(n)...)), "Check", n)
	}
	for _, s := range goodTexts() {
		right(t, book(page("S", cell(1, 1, s), cell(64, 26, s)), page("a", cell(1, 1, s))), "Check", s)
	}
	for _, n := range sheetNames() {
		right(t, book(page(n), page("Feb")), "Check", n)
		right(t, book(page("Feb"), page(n)), "Check", n)
	}
	for i, a := range sheetNames() {
		for _, b := range sheetNames()[:i] {
			right(t, book(page(a), page(b)), "Check", a, b)
		}
	}
}

// TestCheckOfNamesAndLinks: they are not looked at.
func TestCheckOfNamesAndLinks(t *testing.T) {
	b := book(page("S"))
	for range 100 {
		b.Names, b.Links = append(b.Names, api.Name{Text: longTexts()[0]}), append(b.Links, api.Link{Row: -5})
	}
	right(t, b, "Check")
}

func TestCheckOfHowManySheets(t *testing.T) {
	same(t, sheet.Check(api.Book{}), api.ErrSheets, "Check")
	same(t, sheet.Check(api.Book{Sheets: []api.Sheet{}}), api.ErrSheets, "Check")
	same(t, sheet.Check(book()), api.ErrSheets, "Check")
	for n := api.MaxSheets + 1; n <= len(sheetNames()); n++ {
		same(t, sheet.Check(named(n)), api.ErrSheets, "Check", n)
	}
	same(t, sheet.Check(book(make([]api.Sheet, 1000)...)), api.ErrSheets, "Check")
}

// TestCheckOfNames: one that may not be, in each place.
func TestCheckOfNames(t *testing.T) {
	for _, s := range noNames() {
		for n := range api.MaxSheets {
			for i := range n + 1 {
				b := named(n + 1)
				b.Sheets[i].Name = s
				same(t, sheet.Check(b), api.ErrName, "Check", s, n, i)
			}
		}
	}
	same(t, sheet.Check(book(api.Sheet{})), api.ErrName, "Check")
}

// TestCheckOfOneTwice: side by side or not.
func TestCheckOfOneTwice(t *testing.T) {
	for n := 2; n <= api.MaxSheets; n++ {
		for i := range n {
			for j := range n {
				if i != j {
					b := named(n)
					b.Sheets[i].Name = b.Sheets[j].Name
					same(t, sheet.Check(b), api.ErrExists, "Check", n, i, j)
				}
			}
		}
	}
	same(t, sheet.Check(book(page("S"), page("S"))), api.ErrExists, "Check")
}

// faulty: Check answers want of a book in which one sheet, in each place, has these cells.
func faulty(t *testing.T, want api.Errno, l ...api.Cell) {
	t.Helper()
	for n := range api.MaxSheets {
		for i := range n + 1 {
			b := named(n + 1)
			b.Sheets[i].Cells = l
			same(t, sheet.Check(b), want, "Check", n, i, l)
		}
	}
}

func TestCheckOfCellsOutside(t *testing.T) {
	for _, p := range outside() {
		faulty(t, api.ErrRange, cell(p[0], p[1], "x"))
	}
	faulty(t, api.ErrRange, cell(0, 26, "x"), cell(1, 1, "x"))
	faulty(t, api.ErrRange, cell(1, 0, "x"), cell(1, 1, "x"))
	faulty(t, api.ErrRange, cell(1, 1, "x"), cell(1, 27, "x"), cell(2, 1, "x"))
	faulty(t, api.ErrRange, cell(64, 26, "x"), cell(65, 1, "x"))
}

// TestCheckOfOrders: of two cells the one that is ahead, by row and then column, stands first.
func TestCheckOfOrders(t *testing.T) {
	l := numbered(60)
	for i, a := range l {
		for j, b := range l {
			want := api.OK
			if i >= j {
				want = api.ErrRange
			}
			same(t, sheet.Check(book(page("S", a, b))), want, "Check", a, b)
		}
	}
	for i := range len(l) - 1 {
		turned := numbered(len(l))
		turned[i], turned[i+1] = turned[i+1], turned[i]
		faulty(t, api.ErrRange, turned...)
		faulty(t, api.ErrRange, slices.Insert(numbered(len(l)), i, l[i])...)
		faulty(t, api.ErrRange, slices.Insert(numbered(len(l)), i, cell(l[i].Row, l[i].Col, "twin"))...)
		faulty(t, api.ErrRange, append(numbered(len(l)), l[i])...)
	}
	// Each sheet's cells rise by themselves.
	right(t, book(page("S", cell(9, 9, "x")), page("a", cell(1, 1, "x")), page("b", cell(1, 1, "x"))), "Check")
}

func TestCheckOfEmptyTexts(t *testing.T) {
	faulty(t, api.ErrRange, cell(1, 1, ""))
	for i := range 30 {
		l := numbered(30)
		l[i].Text = ""
		faulty(t, api.ErrRange, l...)
	}
}

func TestCheckOfTexts(t *testing.T) {
	for e, texts := range map[api.Errno][]string{api.ErrText: longTexts(), api.ErrForm: noFormulas()} {
		for _, s := range texts {
			faulty(t, e, cell(1, 1, s))
			faulty(t, e, cell(1, 1, "x"), cell(1, 2, s), cell(2, 1, "=1"))
			faulty(t, e, append(numbered(30), cell(64, 26, s))...)
		}
	}
}

// TestCheckOfSeveralTexts: what is wrong with the first cell counts, by sheets, then as the cells stand.
func TestCheckOfSeveralTexts(t *testing.T) {
	long, form := longTexts()[0], "=1+"
	faulty(t, api.ErrText, cell(1, 1, long), cell(1, 2, form))
	faulty(t, api.ErrForm, cell(1, 1, form), cell(1, 2, long))
	faulty(t, api.ErrForm, cell(1, 1, "x"), cell(2, 2, form), cell(3, 1, long), cell(3, 2, form))
	same(t, sheet.Check(book(page("b"), page("a", cell(9, 9, long)), page("S", cell(1, 1, form)))), api.ErrText, "Check")
	same(t, sheet.Check(book(page("b"), page("a", cell(9, 9, form)), page("S", cell(1, 1, long)))), api.ErrForm, "Check")
}

func TestCheckOfHowManyCells(t *testing.T) {
	for _, n := range []int{201, 202, 300, 1664} {
		same(t, sheet.Check(book(page("S", numbered(n)...))), api.ErrCells, "Check", n)
		same(t, sheet.Check(book(page("a"), page("S", numbered(n)...))), api.ErrCells, "Check", n)
	}
	for n := range api.MaxSheets {
		b := full(n + 1)
		for i := range b.Sheets {
			b := full(n + 1)
			b.Sheets[i].Cells = append(slices.Clone(b.Sheets[i].Cells), cell(64, 26, "x"))
			same(t, sheet.Check(b), api.ErrCells, "Check", n, i)
		}
	}
}

// TestCheckOfManyErrors: the first one counts, of each set of them, whichever sheets have them.
func TestCheckOfManyErrors(t *testing.T) {
	for set := range 1 << 7 {
		has := func(i int) bool { return set>>i&1 == 1 }
		for _, back := range []bool{false, true} {
			b := named(4)
			if has(0) {
				b = named(5)
			}
			if has(1) {
				b.Sheets[3].Name = "A1"
			}
			if has(2) {
				b.Sheets[1].Name = b.Sheets[0].Name
			}
			if has(3) {
				b.Sheets[3].Cells = []api.Cell{cell(1, 1, "x"), cell(1, 1, "x")}
			}
			if has(4) {
				b.Sheets[1].Cells = []api.Cell{cell(1, 1, strings.Repeat("=", 256))}
			}
			if has(5) {
				b.Sheets[2].Cells = []api.Cell{cell(1, 1, "=A2+")}
			}
			if has(6) {
				b.Sheets[0].Cells = numbered(201)
			}
			errors := []api.Errno{api.ErrSheets, api.ErrName, api.ErrExists, api.ErrRange, api.ErrText, api.ErrForm, api.ErrCells}
			if back { // the sheet with the text that is no formula comes ahead of the one with the long one
				slices.Reverse(b.Sheets)
				errors[4], errors[5] = errors[5], errors[4]
			}
			want := api.OK
			for i, e := range errors {
				if back && (i == 4 || i == 5) {
					i = 9 - i
				}
				if has(i) {
					want = e
					break
				}
			}
			same(t, sheet.Check(b), want, "Check", set, back)
		}
	}
}

// judged: what Check is to say, by a look at each promise's words alone.
func judged(b api.Book) api.Errno {
	seen, n := map[string]int{}, 0
	var name, exists, outside, text bool
	first := api.OK
	for _, s := range b.Sheets {
		seen[s.Name]++
		name = name || !slices.Contains(sheetNames(), s.Name)
		exists = exists || seen[s.Name] > 1
		n += len(s.Cells)
		was := 0
		for _, c := range s.Cells {
			if c.Row < 1 || c.Row > 64 || c.Col < 1 || c.Col > 26 || c.Text == "" || c.Row*100+c.Col <= was {
				outside = true
			}
			was = c.Row*100 + c.Col
			if e := sheet.May(c.Text); e != api.OK && !text {
				text, first = true, e
			}
		}
	}
	switch {
	case len(b.Sheets) < 1 || len(b.Sheets) > 4:
		return api.ErrSheets
	case name:
		return api.ErrName
	case exists:
		return api.ErrExists
	case outside:
		return api.ErrRange
	case text:
		return first
	case n > 200:
		return api.ErrCells
	}
	return api.OK
}

func TestCheckOfAnyBooks(t *testing.T) {
	r := rand.New(rand.NewSource(6))
	counts := map[api.Errno]int{}
	for range 6000 {
		b := anyBook(r)
		switch r.Intn(6) {
		case 0:
			b = wildBook(r)
		case 1:
			s := &b.Sheets[r.Intn(len(b.Sheets))]
			if l := slices.Clone(s.Cells); len(l) > 0 {
				l[r.Intn(len(l))] = wildCell(r)
				s.Cells = l
			}
		case 2:
			s := &b.Sheets[r.Intn(len(b.Sheets))]
			if l := slices.Clone(s.Cells); len(l) > 0 {
				l[r.Intn(len(l))].Text = wildTexts[r.Intn(len(wildTexts))]
				s.Cells = l
			}
		case 3:
			b.Sheets[r.Intn(len(b.Sheets))].Name = wildNames[r.Intn(len(wildNames))]
		case 4:
			i := r.Intn(len(b.Sheets))
			if l := b.Sheets[i].Cells; len(l) == 0 || l[len(l)-1].Row < 64 {
				b.Sheets[i].Cells = append(slices.Clone(l), cell(64, 26, "x"))
			}
		}
		want := judged(b)
		same(t, sheet.Check(b), want, "Check", shown(b))
		counts[want]++
	}
	for _, e := range []api.Errno{api.OK, api.ErrSheets, api.ErrName, api.ErrExists, api.ErrRange, api.ErrText, api.ErrForm, api.ErrCells} {
		if counts[e] < 50 {
			t.Fatalf("only %d answers %d", counts[e], e)
		}
	}
}
