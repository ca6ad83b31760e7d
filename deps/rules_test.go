package deps_test

import (
	"fmt"
	"math"
	"math/rand"
	"slices"
	"strings"
	"testing"

	"octavo/api"
	"octavo/deps"
)

// Arguments of anything.

func wildInt(r *rand.Rand) int {
	return []int{math.MinInt, -4097, -1, 0, 1, 2, 3, 26, 64, 65, 4095, 4096, 4097, math.MaxInt}[r.Intn(14)]
}

func wildText(r *rand.Rand) string {
	return []string{"", "x", "y", "a", "S", "A1", "\xff", "x+A1", "[b]x", strings.Repeat("A1+", 100), "(", "=A1", "n!"}[r.Intn(13)]
}

func wildRef(r *rand.Rand) api.Ref {
	return api.Ref{Book: wildText(r), Sheet: wildText(r), Row: wildInt(r), Col: wildInt(r), FixRow: r.Intn(2) == 0}
}

func wildTree(r *rand.Rand, depth int) api.Node {
	n := api.Node{Kind: r.Intn(10) - 1, S: wildText(r), Ref: wildRef(r), To: wildRef(r), Value: api.Value{Kind: r.Intn(7) - 1, N: wildInt(r), S: wildText(r)}}
	for range r.Intn(4) {
		if depth > 1 {
			n.Args = append(n.Args, wildTree(r, depth-1))
		}
	}
	return n
}

func wildPlace(r *rand.Rand) api.Place {
	return api.Place{Book: wildText(r), Sheet: wildText(r), Row: wildInt(r), Col: wildInt(r)}
}

func wildBooks(r *rand.Rand) []api.Open {
	var l []api.Open
	for range r.Intn(5) {
		o := api.Open{Name: wildText(r)}
		for range r.Intn(5) {
			o.Book.Names = append(o.Book.Names, name(wildText(r), wildText(r), wildText(r)))
			o.Book.Sheets = append(o.Book.Sheets, api.Sheet{Name: wildText(r), Cells: make([]api.Cell, r.Intn(3))})
			o.Book.Links = append(o.Book.Links, api.Link{Book: wildText(r), Row: wildInt(r)})
		}
		l = append(l, o)
	}
	return l
}

func wildRect(r *rand.Rand) api.Rect {
	return rect(wildText(r), wildText(r), wildInt(r), wildInt(r), wildInt(r), wildInt(r))
}

// all: what every call answers, told to see.
func all(see func(what, answer string)) {
	r := rand.New(rand.NewSource(8))
	for i := range 20000 {
		l, home, n := wildBooks(r), wildPlace(r), wildTree(r, 1+r.Intn(4))
		if r.Intn(2) == 0 {
			l, home = anyBooks(r), anyHome(r)
		}
		b, ok := deps.Open(l, wildText(r))
		s := fmt.Sprint(b, ok, asked(deps.Names(l, home, n)), deps.Rects(l, home, n), deps.In(wildRect(r), wildPlace(r)))
		see(fmt.Sprint(i), s)
	}
	for i := range 3000 {
		var l [][2]int
		for range r.Intn(20) {
			l = append(l, [2]int{wildInt(r), wildInt(r)})
		}
		n := wildInt(r)
		if i > 100 && n > 100 {
			n = r.Intn(100)
		}
		order, ring := deps.Order(n, l)
		see(fmt.Sprint("Order", i), fmt.Sprint(order, ring))
	}
}

// R1, R4: nothing panics, and the same arguments are answered the same.

func TestCallsAnswerTheSameAgain(t *testing.T) {
	was := map[string]string{}
	all(func(what, answer string) { was[what] = answer })
	all(func(what, answer string) {
		if was[what] != answer {
			t.Fatalf("%s: %s, then %s", what, was[what], answer)
		}
	})
	if len(was) < 20000 {
		t.Fatalf("only %d calls", len(was))
	}
}

// R7: beside a false is nothing.

func TestBesideAFalseIsNothing(t *testing.T) {
	r := rand.New(rand.NewSource(9))
	seen := 0
	for range 20000 {
		l := wildBooks(r)
		b, ok := deps.Open(l, wildText(r))
		m := asked(deps.Names(l, wildPlace(r), wildTree(r, 1)))
		if !ok {
			same(t, equal(b, api.Book{}), true, "beside a false of Open")
			seen++
		}
		if !m.ok {
			same(t, m, meaning{}, "beside a false of Names")
			seen++
		}
	}
	if seen < 20000 {
		t.Fatalf("only %d falses", seen)
	}
}

// Wild trees and books, by the second way.
func TestWildRectsByTheModel(t *testing.T) {
	r := rand.New(rand.NewSource(10))
	for range 20000 {
		l, home, n := anyBooks(r), wildPlace(r), wildTree(r, 1+r.Intn(4))
		alike(t, deps.Rects(l, home, n), once(expanded(l, home, n, 8)), "Rects of", shown(n), home, l)
	}
}

// R3: memory.

// roomy: l, with room behind its end, which is filled.
func roomy[T any](l []T, fill T) []T {
	return append(append(make([]T, 0, len(l)+3), l...), fill, fill, fill)[:len(l)]
}

// roomyBooks: books whose lists all have such room.
func roomyBooks(l []api.Open) []api.Open {
	var out []api.Open
	for _, o := range l {
		b := twin(o.Book)
		for i, s := range b.Sheets {
			b.Sheets[i].Cells = roomy(s.Cells, api.Cell{Row: 8, Text: "behind"})
		}
		b.Sheets = roomy(b.Sheets, api.Sheet{Name: "behind"})
		b.Names = roomy(b.Names, name("", "behind", "A1"))
		b.Links = roomy(b.Links, api.Link{Book: "behind"})
		out = append(out, api.Open{Name: o.Name, Book: b})
	}
	return roomy(out, book("behind"))
}

// whole: all of a list, with what lies behind its end.
func whole[T any](l []T) []T { return l[:cap(l)] }

// seen: books and what lies behind the ends of their lists, for one who reads them.
func seen(l []api.Open) string {
	var s strings.Builder
	for _, o := range whole(l) {
		fmt.Fprint(&s, o.Name, whole(o.Book.Names), whole(o.Book.Links))
		for _, x := range whole(o.Book.Sheets) {
			fmt.Fprint(&s, x.Name, whole(x.Cells))
		}
	}
	return s.String()
}

// scribble: all lists of b are written over, with their spare room.
func scribble(b api.Book) {
	for i, s := range whole(b.Sheets) {
		for j := range whole(s.Cells) {
			s.Cells[:cap(s.Cells)][j] = api.Cell{Text: "changed"}
		}
		whole(b.Sheets)[i] = api.Sheet{Name: "changed"}
	}
	for i := range whole(b.Names) {
		whole(b.Names)[i] = name("", "changed", "1")
	}
	for i := range whole(b.Links) {
		whole(b.Links)[i] = api.Link{Book: "changed"}
	}
}

// sharing: books, one of which has two sheets whose cells are one list.
func sharing() []api.Open {
	cells := []api.Cell{{Row: 1, Col: 1, Text: "x"}, {Row: 2, Col: 1, Text: "y"}}
	return []api.Open{
		{Name: "a", Book: api.Book{Sheets: []api.Sheet{{Name: "S", Cells: cells}, {Name: "T", Cells: cells}}}},
		{Name: "b", Book: full("S")},
	}
}

func TestOpenTellsNewMemory(t *testing.T) {
	for _, s := range []string{"a", "b"} {
		l := roomyBooks(sharing())
		was := seen(l)
		one, _ := deps.Open(l, s)
		two, _ := deps.Open(l, s)
		want := twin(one)
		same(t, seen(l), was, "Open changes nothing")
		scribble(two)
		same(t, seen(l), was, "Open, and its answer is changed")
		same(t, equal(one, want), true, "Open, and another answer is changed")
		for _, o := range l {
			scribble(o.Book)
		}
		same(t, equal(one, want), true, "Open, and what was handed in is changed")
	}
	b, _ := deps.Open(sharing(), "a")
	b.Sheets[0].Cells[0].Text = "changed"
	same(t, b.Sheets[1].Cells[0].Text, "x", "Open: two lists of one answer")
}

// roomyTree: n, whose lists all have room behind their ends.
func roomyTree(n api.Node) api.Node {
	l := slices.Clone(n.Args)
	for i, a := range l {
		l[i] = roomyTree(a)
	}
	n.Args = roomy(l, named("", "behind"))
	return n
}

// shownWhole: n, with what lies behind the ends of its lists.
func shownWhole(n api.Node) string {
	var l []string
	for _, a := range whole(n.Args) {
		l = append(l, shownWhole(a))
	}
	n.Args = nil
	return shown(n) + strings.Join(l, "")
}

func TestNamesAndRectsChangeNothing(t *testing.T) {
	r := rand.New(rand.NewSource(11))
	for range 3000 {
		l, home, n := roomyBooks(anyBooks(r)), anyHome(r), roomyTree(tree(t, anyFormula(r)))
		books, node := seen(l), shownWhole(n)
		m := asked(deps.Names(l, home, n))
		one, two := deps.Rects(l, home, n), deps.Rects(l, home, n)
		want := slices.Clone(one)
		for i := range whole(two) {
			whole(two)[i] = rect("changed", "", 1, 1, 1, 1)
		}
		same(t, seen(l), books, "the books of Names and Rects")
		same(t, shownWhole(n), node, "the node of Names and Rects")
		alike(t, one, want, "Rects, and another answer is changed")
		for _, o := range l {
			scribble(o.Book)
		}
		alike(t, one, want, "Rects, and what was handed in is changed")
		same(t, m.name.Name == "changed", false, "Names, and what was handed in is changed")
	}
}

func TestOrderTellsNewMemory(t *testing.T) {
	r := rand.New(rand.NewSource(12))
	for range 3000 {
		n := 1 + r.Intn(10)
		l := roomy(anyEdges(r, n, r.Intn(20)), [2]int{7, 7})
		was := slices.Clone(whole(l))
		order, ring := deps.Order(n, l)
		wantOrder, wantRing := slices.Clone(order), slices.Clone(ring)
		other, otherRing := deps.Order(n, l)
		for i := range whole(other) {
			whole(other)[i] = -7
		}
		for i := range whole(otherRing) {
			whole(otherRing)[i] = !whole(otherRing)[i]
		}
		alike(t, whole(l), was, "the edges of Order")
		for i := range whole(l) {
			whole(l)[i] = [2]int{0, 0}
		}
		alike(t, order, wantOrder, "Order, and all else is changed")
		alike(t, ring, wantRing, "Order, and all else is changed")
	}
}

// R3: nil and empty lists are the same.
func TestEmptyLists(t *testing.T) {
	n := ref(cell(1, 1))
	n.Args = []api.Node{}
	for _, l := range [][]api.Open{nil, {}, {{Name: "b", Book: api.Book{Sheets: []api.Sheet{}, Names: []api.Name{}, Links: []api.Link{}}}}} {
		alike(t, deps.Rects(l, at("b", "S"), n), []api.Rect{rect("b", "S", 1, 1, 1, 1)}, "Rects")
		alike(t, deps.Rects(l, at("b", "S"), named("", "x")), nil, "Rects")
		same(t, asked(deps.Names(l, at("b", "S"), named("", "x"))), meaning{}, "Names")
	}
	orders(t, 2, [][2]int{}, []int{0, 1})
	orders(t, 0, [][2]int{}, nil)
}

// The examples of the chapter.
func TestExamples(t *testing.T) {
	orders(t, 3, edges("0>1 1>2"), []int{2, 1, 0})
	orders(t, 3, edges("0>1 1>2 2>0"), []int{0, 1, 2}, 0, 1, 2)
	reads(t, nil, at("b", "S"), "SUM(A1:B2)+A1", "b.S.1.1.2.2", "b.S.1.1.1.1")
}
