package deps_test

import (
	"fmt"
	"math/rand"
	"slices"
	"strings"
	"testing"

	"octavo/api"
	"octavo/deps"
	"octavo/formula"
)

// same: has a call answered as it is to?
func same[T comparable](t *testing.T, got, want T, what string, args ...any) {
	if got != want {
		t.Helper() // here, since very many calls pass
		t.Fatalf("%s%v: %#v, want %#v", what, args, got, want)
	}
}

// alike: likewise, of lists. nil and empty ones are the same.
func alike[T comparable](t *testing.T, got, want []T, what string, args ...any) {
	if !slices.Equal(got, want) {
		t.Helper()
		t.Fatalf("%s%v: %v, want %v", what, args, got, want)
	}
}

// equal: are two books alike, by all that they have?
func equal(a, b api.Book) bool {
	return slices.EqualFunc(a.Sheets, b.Sheets, func(x, y api.Sheet) bool { return x.Name == y.Name && slices.Equal(x.Cells, y.Cells) }) &&
		slices.Equal(a.Names, b.Names) && slices.Equal(a.Links, b.Links)
}

// twin: a book that shares nothing with b.
func twin(b api.Book) api.Book {
	var out api.Book
	for _, s := range b.Sheets {
		out.Sheets = append(out.Sheets, api.Sheet{Name: s.Name, Cells: append([]api.Cell(nil), s.Cells...)})
	}
	out.Names = append(out.Names, b.Names...)
	out.Links = append(out.Links, b.Links...)
	return out
}

// Books, names and homes.

func book(name string, l ...api.Name) api.Open {
	return api.Open{Name: name, Book: api.Book{Names: l}}
}

func name(scope, name, text string) api.Name {
	return api.Name{Scope: scope, Name: name, Text: text}
}

func at(book, sheet string) api.Place { return api.Place{Book: book, Sheet: sheet, Row: 9, Col: 9} }

// Nodes.

func cell(row, col int) api.Ref         { return api.Ref{Row: row, Col: col} }
func of(b, s string, r api.Ref) api.Ref { r.Book, r.Sheet = b, s; return r }
func ref(r api.Ref) api.Node            { return api.Node{Kind: 2, Ref: r} }
func area(r, to api.Ref) api.Node       { return api.Node{Kind: 3, Ref: r, To: to} }
func named(book, s string) api.Node {
	return api.Node{Kind: 4, S: s, Ref: api.Ref{Book: book}}
}
func neg(n api.Node) api.Node     { return api.Node{Kind: 5, S: "-", Args: []api.Node{n}} }
func call(l ...api.Node) api.Node { return api.Node{Kind: 7, S: "F", Args: l} }

// tree: what a text is parsed to.
func tree(t *testing.T, s string) api.Node {
	n, e := formula.Parse(s)
	if e != api.OK {
		t.Helper()
		t.Fatalf("Parse(%q): %d", s, e)
	}
	return n
}

// shown: a tree for one who reads it.
func shown(n api.Node) string {
	s := fmt.Sprint("{", n.Kind, " ", n.S, n.Value, n.Ref, n.To)
	for _, a := range n.Args {
		s += " " + shown(a)
	}
	return s + "}"
}

// Rects.

func rect(book, sheet string, r1, c1, r2, c2 int) api.Rect {
	return api.Rect{Book: book, Sheet: sheet, R1: r1, C1: c1, R2: r2, C2: c2}
}

// reads: the Rects of a text, which are written as the places from corner to corner: b.S.1.2.3.4.
func reads(t *testing.T, l []api.Open, home api.Place, text string, want ...string) {
	t.Helper()
	alike(t, written(deps.Rects(l, home, tree(t, text))), want, "Rects of", text, home)
}

func written(l []api.Rect) []string {
	var out []string
	for _, r := range l {
		out = append(out, fmt.Sprintf("%s.%s.%d.%d.%d.%d", r.Book, r.Sheet, r.R1, r.C1, r.R2, r.C2))
	}
	return out
}

// meaning: what Names answers.
type meaning struct {
	name api.Name
	book string
	ok   bool
}

func asked(x api.Name, book string, ok bool) meaning { return meaning{x, book, ok} }

// The second way for names and rects: all is written out, each name in each name as often as it stands there, and only then those are left out that come again.

// means: what a name means.
func means(l []api.Open, home api.Place, book, s string) meaning {
	scopes := []string{home.Sheet, ""}
	if book == "" {
		book = home.Book
	} else if book != home.Book {
		scopes = []string{""}
	}
	for _, o := range l {
		if o.Name != book {
			continue
		}
		for _, scope := range scopes {
			for _, x := range o.Book.Names {
				if x.Scope == scope && x.Name == s {
					return meaning{x, book, true}
				}
			}
		}
		break
	}
	return meaning{}
}

// expanded: the rects of n, with all that come again. left: how deep names may be yet.
func expanded(l []api.Open, home api.Place, n api.Node, left int) []api.Rect {
	var out []api.Rect
	if n.Kind == api.NodeRef || n.Kind == api.NodeArea {
		a, b := n.Ref, n.Ref
		if n.Kind == api.NodeArea {
			b = n.To
		}
		rows, cols := []int{a.Row, b.Row}, []int{a.Col, b.Col}
		slices.Sort(rows)
		slices.Sort(cols)
		x := rect(a.Book, a.Sheet, rows[0], cols[0], rows[1], cols[1])
		if x.Book == "" {
			x.Book = home.Book
		}
		if x.Sheet == "" {
			x.Sheet = home.Sheet
		}
		out = append(out, x)
	}
	if n.Kind == api.NodeName && left > 0 {
		m := means(l, home, n.Ref.Book, n.S)
		there := home
		there.Book = m.book
		if m.name.Scope != "" {
			there.Sheet = m.name.Scope
		}
		if text, e := formula.Parse(m.name.Text); m.ok && e == api.OK {
			out = append(out, expanded(l, there, text, left-1)...)
		}
	}
	for _, a := range n.Args {
		out = append(out, expanded(l, home, a, left)...)
	}
	return out
}

// once: each where it comes first.
func once(l []api.Rect) []api.Rect {
	var out []api.Rect
	for _, x := range l {
		if !slices.Contains(out, x) {
			out = append(out, x)
		}
	}
	return out
}

// The second way for orders: which numbers lead to which is written down for all pairs, and all groups are looked at anew for each that comes.

// model: of n numbers.
type model struct {
	n     int
	edges [][2]int // those that count
	leads [][]bool // leads[a][b]: a way of edges goes from a to b
}

func modelOf(n int, edges [][2]int) model {
	m := model{n: min(max(n, 0), 4096)}
	for range m.n {
		m.leads = append(m.leads, make([]bool, m.n))
	}
	for _, e := range edges {
		if e[0] >= 0 && e[0] < m.n && e[1] >= 0 && e[1] < m.n {
			m.edges = append(m.edges, e)
			m.leads[e[0]][e[1]] = true
		}
	}
	for by := range m.n {
		for a := range m.n {
			for b := range m.n {
				m.leads[a][b] = m.leads[a][b] || m.leads[a][by] && m.leads[by][b]
			}
		}
	}
	return m
}

// together: are a and b of one ring group, or one number?
func (m model) together(a, b int) bool {
	return a == b || m.leads[a][b] && m.leads[b][a]
}

// order: the answer, by the words of P16.3.
func (m model) order() ([]int, []bool) {
	var order []int
	for len(order) < m.n {
		for a := range m.n { // the least number of those of its group, since they rise
			if !slices.Contains(order, a) && m.may(a, order) {
				for b := range m.n {
					if m.together(a, b) {
						order = append(order, b)
					}
				}
				break
			}
		}
	}
	var ring []bool
	for a := range m.n {
		ring = append(ring, m.leads[a][a])
	}
	return order, ring
}

// may: has all come that the group of a reads outside of it?
func (m model) may(a int, order []int) bool {
	for _, e := range m.edges {
		if m.together(e[0], a) && !m.together(e[1], a) && !slices.Contains(order, e[1]) {
			return false
		}
	}
	return true
}

// ordered: Order's answer is that.
func ordered(t *testing.T, n int, edges [][2]int, order []int, ring []bool) {
	l, r := deps.Order(n, edges)
	if !slices.Equal(l, order) || !slices.Equal(r, ring) {
		t.Helper()
		t.Fatalf("Order(%d, %v): %v, %v, want %v, %v", n, edges, l, r, order, ring)
	}
}

// orders: likewise, with the numbers that lie on a ring told by a list.
func orders(t *testing.T, n int, edges [][2]int, order []int, onRing ...int) {
	t.Helper()
	ring := make([]bool, len(order))
	for _, a := range onRing {
		ring[a] = true
	}
	ordered(t, n, edges, order, ring)
}

// edges: written as 0>1 for {0, 1}.
func edges(s string) [][2]int {
	var l [][2]int
	for _, f := range strings.Fields(s) {
		var e [2]int
		if _, err := fmt.Sscanf(f, "%d>%d", &e[0], &e[1]); err != nil {
			panic(err)
		}
		l = append(l, e)
	}
	return l
}

// Many, by chance.

// anyBooks: a few, of few names that name each other.
func anyBooks(r *rand.Rand) []api.Open {
	var l []api.Open
	for range r.Intn(5) {
		o := book([]string{"a", "b", "c", ""}[r.Intn(4)])
		for range r.Intn(9) {
			o.Book.Names = append(o.Book.Names, name([]string{"", "", "S", "T"}[r.Intn(4)], []string{"x", "y", "z"}[r.Intn(3)], anyText(r)))
		}
		l = append(l, o)
	}
	return l
}

// anyText: a formula's, and now and then none.
func anyText(r *rand.Rand) string {
	s := anyFormula(r)
	if r.Intn(20) == 0 {
		s += "+"
	}
	return s
}

// anyFormula: of refs and names.
func anyFormula(r *rand.Rand) string {
	var l []string
	for range 1 + r.Intn(3) {
		part := []string{"A1", "B2", "A1:B2", "B2:A1", "S!A1", "T!C3:C1", "[a]S!A1", "[b]T!A1:A2", "7", "-A9", "F(A1,(B9))"}[r.Intn(11)]
		if r.Intn(2) == 0 {
			part = []string{"", "", "", "[a]", "[b]", "[c]"}[r.Intn(6)] + []string{"x", "y", "z"}[r.Intn(3)]
		}
		l = append(l, part)
	}
	return strings.Join(l, "+")
}

func anyHome(r *rand.Rand) api.Place {
	return at([]string{"a", "b", "c", ""}[r.Intn(4)], []string{"S", "T", ""}[r.Intn(3)])
}

// anyEdges: so many, of numbers up to n, a few of them none.
func anyEdges(r *rand.Rand, n, count int) [][2]int {
	var l [][2]int
	for range count {
		e := [2]int{r.Intn(n), r.Intn(n)}
		if r.Intn(20) == 0 {
			e[r.Intn(2)] = []int{-1, n, n + 1, -1 << 63, 1<<63 - 1}[r.Intn(5)]
		}
		l = append(l, e)
	}
	return l
}
