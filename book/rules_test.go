package book_test

import (
	"fmt"
	"math"
	"math/rand"
	"slices"
	"strings"
	"testing"

	"octavo/api"
	"octavo/book"
)

// oddBooks: with lists that are nil, empty and long, and texts that may not be.
func oddBooks() []api.Book {
	huge := strings.Repeat("\xff", 1<<16)
	return []api.Book{
		{}, {Sheets: []api.Sheet{}}, {Sheets: make([]api.Sheet, 3000)}, some(), book.New(), largest(),
		{Sheets: []api.Sheet{page("S", make([]api.Cell, 3000)...)}},
		{Sheets: []api.Sheet{page("S", api.Cell{Row: math.MinInt, Col: math.MaxInt, Text: huge}, api.Cell{Row: 1, Col: 1, Text: "=" + strings.Repeat("(", 1<<16)})}},
		{Sheets: []api.Sheet{page(huge)}, Names: []api.Name{{Scope: huge, Name: huge, Text: huge}}, Links: []api.Link{{Book: huge, Sheet: huge, Row: math.MinInt, Col: math.MaxInt, Value: api.Value{Kind: math.MinInt, N: math.MinInt, S: huge}}}},
		{Sheets: []api.Sheet{page("S")}, Names: make([]api.Name, 3000), Links: make([]api.Link, 3000)},
		{Sheets: []api.Sheet{page("S"), page("S"), page("S")}, Links: manyLinks(3000)},
		{Names: manyNames("S", 3000)},
	}
}

// oddOps: of all kinds, and others, with numbers at their ends and texts that may not be.
func oddOps() []api.Op {
	huge := strings.Repeat("\xff", 1<<16)
	l := []api.Op{{Kind: math.MinInt}, {Kind: math.MaxInt}, {Kind: -1}}
	for k := range 14 {
		for _, n := range []int{math.MinInt, -1, 0, 1, 64, math.MaxInt} {
			for _, s := range []string{"", "S", "c", huge} {
				x := api.Link{Book: s, Sheet: s, Row: n, Col: n, Value: api.Value{Kind: n, N: n, S: s}}
				l = append(l, api.Op{Kind: k, Book: s, Sheet: s, At: n, N: n, Row: n, Col: n, Text: s, Name: api.Name{Scope: s, Name: s, Text: s}, Link: x, Cells: make([]api.Cell, max(0, min(n, 500)))})
			}
		}
	}
	return append(l, kinds()...)
}

// all: what every call answers, told to see.
func all(see func(what, answer string)) {
	books, ops := oddBooks(), oddOps()
	for i, b := range books {
		bytes, e := book.Encode(b)
		x, wrong := book.Decode(bytes)
		see(fmt.Sprint("book ", i), short(fmt.Sprint(book.Check(b), bytes, e, shown(x), wrong)))
		for j, a := range books {
			l, ok := book.Diff(a, b)
			see(fmt.Sprint("books ", i, " ", j), short(fmt.Sprint(shownOps(l), ok)))
		}
		for j, o := range ops {
			for _, n := range []string{"b", "c", ""} {
				got := asked(book.Apply(b, n, o))
				v, ok := book.FindLink(b, api.Place{Book: o.Book, Sheet: o.Sheet, Row: o.Row, Col: o.Col})
				see(fmt.Sprint("change ", i, " ", j, " ", n), short(fmt.Sprint(shown(got.b), shownOps(got.back), got.e, v, ok, book.CmpLink(o.Link, link("[c]S!A1", "")))))
			}
		}
		got := asked(book.All(b, "b", ops))
		see(fmt.Sprint("all ", i), short(fmt.Sprint(shown(got.b), shownOps(got.back), got.e)))
		got = asked(book.All(b, "b", nil))
		see(fmt.Sprint("none ", i), short(fmt.Sprint(shown(got.b), shownOps(got.back), got.e)))
	}
	r := rand.New(rand.NewSource(6))
	for i := range 2000 {
		b := make([]byte, r.Intn(60))
		r.Read(b)
		x, e := book.Decode(b)
		see(fmt.Sprint("bytes ", i), fmt.Sprint(shown(x), e))
	}
}

// short: a text that is long, as its length and a sum of it all.
func short(s string) string {
	if len(s) < 200 {
		return s
	}
	sum := uint64(14695981039346656037)
	for _, c := range []byte(s) {
		sum = (sum ^ uint64(c)) * 1099511628211
	}
	return fmt.Sprint(len(s), " ", sum)
}

// R1, R4: nothing panics, also of books that are not right, and the same arguments are answered the same.

func TestCallsAnswerTheSameAgain(t *testing.T) {
	was := map[string]string{}
	all(func(what, answer string) { was[what] = answer })
	all(func(what, answer string) {
		if was[what] != answer {
			t.Fatalf("%s: %s, then %s", what, was[what], answer)
		}
	})
	if len(was) < 10000 {
		t.Fatalf("only %d calls", len(was))
	}
}

// R2, R7: beside an error there is nothing.

func TestBesideAnErrorIsNothing(t *testing.T) {
	for _, b := range oddBooks() {
		for _, o := range oddOps() {
			if got := asked(book.Apply(b, "b", o)); got.e != api.OK {
				refuses(t, got, got.e, "Apply")
			}
		}
	}
}

// R3. What lies in the room behind the lists' ends.
var (
	behindCell = api.Cell{Row: 9, Col: 9, Text: "behind"}
	behindName = api.Name{Name: "behind"}
	behindLink = api.Link{Book: "behind"}
	behindOp   = api.Op{Kind: 9, Text: "behind"}
)

// roomyList: l with room behind its end, which is filled.
func roomyList[T any](l []T, behind T) []T {
	with := append(make([]T, 0, len(l)+3), l...)
	with = append(with, behind, behind, behind)
	return with[:len(l)]
}

// roomy: a book with room behind each list's end. The sheets there have cells too.
func roomy(b api.Book) api.Book {
	b.Sheets = roomyList(b.Sheets, page("Behind", behindCell))
	for i, s := range b.Sheets[:cap(b.Sheets)] {
		b.Sheets[:cap(b.Sheets)][i].Cells = roomyList(s.Cells, behindCell)
	}
	b.Names = roomyList(b.Names, behindName)
	b.Links = roomyList(b.Links, behindLink)
	return b
}

// roomyOps: changes with room behind each list's end.
func roomyOps(l []api.Op) []api.Op {
	l = roomyList(l, behindOp)
	for i, o := range l[:cap(l)] {
		l[:cap(l)][i].Cells = roomyList(o.Cells, behindCell)
	}
	return l
}

// whole: a book with what lies behind its lists' ends, as a text.
func whole(b api.Book) string {
	sheets := slices.Clone(b.Sheets[:cap(b.Sheets)])
	for i, s := range sheets {
		sheets[i].Cells = s.Cells[:cap(s.Cells)]
	}
	return shown(api.Book{Sheets: sheets, Names: b.Names[:cap(b.Names)], Links: b.Links[:cap(b.Links)]})
}

func wholeOps(l []api.Op) string {
	l = slices.Clone(l[:cap(l)])
	for i, o := range l {
		l[i].Cells = o.Cells[:cap(o.Cells)]
	}
	return shownOps(l)
}

func scribbleCells(l []api.Cell) {
	for i := range l[:cap(l)] {
		l[:cap(l)][i] = api.Cell{Row: 8, Col: 8, Text: "changed"}
	}
}

// scribble: all lists of a book are written over, with their spare room.
func scribble(b api.Book) {
	for i, s := range b.Sheets[:cap(b.Sheets)] {
		scribbleCells(s.Cells)
		b.Sheets[:cap(b.Sheets)][i] = page("Changed")
	}
	for i := range b.Names[:cap(b.Names)] {
		b.Names[:cap(b.Names)][i] = api.Name{Name: "changed"}
	}
	for i := range b.Links[:cap(b.Links)] {
		b.Links[:cap(b.Links)][i] = api.Link{Book: "changed"}
	}
}

func scribbleOps(l []api.Op) {
	for i, o := range l[:cap(l)] {
		scribbleCells(o.Cells)
		l[:cap(l)][i] = api.Op{Kind: 1, Text: "changed"}
	}
}

// calls: each call that is given lists, or answers some.
func calls() map[string]func(b api.Book, l []api.Op) told {
	return map[string]func(b api.Book, l []api.Op) told{
		"All": func(b api.Book, l []api.Op) told { return asked(book.All(b, "b", l)) },
		"Apply": func(b api.Book, l []api.Op) told {
			if len(l) == 0 {
				return told{}
			}
			return asked(book.Apply(b, "b", l[0]))
		},
		"Diff": func(b api.Book, l []api.Op) told {
			other, _, _ := book.All(b, "b", l)
			to, _ := book.Diff(b, other)
			from, _ := book.Diff(other, b)
			return told{back: append(to, from...)}
		},
		"Decode": func(b api.Book, l []api.Op) told {
			bytes, _ := book.Encode(b)
			x, e := book.Decode(bytes)
			clear(bytes)
			return told{b: x, e: e}
		},
		"Check, FindLink": func(b api.Book, l []api.Op) told {
			book.FindLink(b, api.Place{Book: "c"})
			return told{e: book.Check(b)}
		},
		"New": func(api.Book, []api.Op) told { return told{b: book.New()} },
	}
}

// What is handed in is not changed, nor what lies behind its end; an answer is new memory, with its spare room: what is done with it or with what was handed in is not seen in the other.
func TestMemory(t *testing.T) {
	r := rand.New(rand.NewSource(7))
	for range 300 {
		first, n := anyBook(r), r.Intn(4)
		var l []api.Op
		for after := first; n > 0; n-- {
			if next, _, e := book.Apply(after, "b", anyOp(r, after)); e == api.OK {
				after = next
			}
			l = append(l, anyOp(r, after))
		}
		for what, call := range calls() {
			b, ops := roomy(first), roomyOps(l)
			was, wasOps := whole(b), wholeOps(ops)
			one, two := call(b, ops), call(b, ops)
			same(t, whole(b)+wholeOps(ops), was+wasOps, what)
			answer := shown(one.b) + shownOps(one.back)
			same(t, shown(two.b)+shownOps(two.back), answer, what+", once more")
			scribble(two.b)
			same(t, shownOps(two.back), shownOps(one.back), what+": the way back, and the book is changed")
			scribbleOps(two.back)
			same(t, whole(b)+wholeOps(ops), was+wasOps, what+", and its answer is changed")
			same(t, shown(one.b)+shownOps(one.back), answer, what+", and another answer is changed")
			scribble(b)
			scribbleOps(ops)
			same(t, shown(one.b)+shownOps(one.back), answer, what+", and what was handed in is changed")
		}
	}
}

// The changes of kinds that hand lists on, or leave them as they are.
func TestMemoryOfEachKind(t *testing.T) {
	for _, o := range kinds() {
		b, l := roomy(some()), roomyOps([]api.Op{o})
		was, wasOps := whole(b), wholeOps(l)
		got := asked(book.Apply(b, "b", l[0]))
		same(t, got.e, api.OK, "Apply", o)
		same(t, whole(b)+wholeOps(l), was+wasOps, "Apply", o)
		answer, back := shown(got.b), shownOps(got.back)
		scribble(b)
		scribbleOps(l)
		same(t, shown(got.b)+shownOps(got.back), answer+back, "Apply, and what was handed in is changed", o)
		scribble(got.b)
		same(t, shownOps(got.back), back, "the way back, and the book is changed", o)
	}
}

// No two lists of one answer share memory, their spare room neither: each item is given a number of its own, which it keeps.
func TestListsOfAnAnswerShareNothing(t *testing.T) {
	r := rand.New(rand.NewSource(8))
	for range 300 {
		b := anyBook(r)
		l := []api.Op{anyOp(r, b), anyOp(r, b)}
		for what, call := range calls() {
			got := call(b, l)
			for round := range 2 {
				n := 0
				number := func(x *int) {
					if n++; round == 0 {
						*x = n
					}
					same(t, *x, n, what)
				}
				for _, s := range got.b.Sheets[:cap(got.b.Sheets)] {
					numberCells(s.Cells, number)
				}
				for i := range got.b.Links[:cap(got.b.Links)] {
					number(&got.b.Links[:cap(got.b.Links)][i].Row)
				}
				for _, o := range got.back[:cap(got.back)] {
					numberCells(o.Cells, number)
				}
			}
		}
	}
}

func numberCells(l []api.Cell, number func(x *int)) {
	for i := range l[:cap(l)] {
		number(&l[:cap(l)][i].Row)
	}
}

func TestNilIsEmpty(t *testing.T) {
	none := api.Book{Sheets: []api.Sheet{page("S")}}
	empty := api.Book{Sheets: []api.Sheet{{Name: "S", Cells: []api.Cell{}}}, Names: []api.Name{}, Links: []api.Link{}}
	a, e := book.Encode(none)
	same(t, e, api.OK, "Encode")
	b, _ := book.Encode(empty)
	same(t, string(a), string(b), "Encode")
	l, ok := book.Diff(none, empty)
	same(t, ok && len(l) == 0, true, "Diff")
	for _, o := range []api.Op{set("S!A1", "x"), rows("S", 1, 1), add("T", 0, ""), define("n", "1"), cache("[c]S!A1", "1"), outDrop("c", "S")} {
		with := o
		with.Cells = []api.Cell{}
		got := asked(book.Apply(empty, "b", with))
		same(t, got.e, api.OK, "Apply", o)
		answers(t, asked(book.Apply(none, "b", o)), got.b, got.back, "Apply", o)
	}
}
