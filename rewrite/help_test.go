package rewrite_test

import (
	"fmt"
	"math/rand"
	"strconv"
	"testing"

	"octavo/api"
	"octavo/formula"
	"octavo/rewrite"
	"octavo/shift"
)

// same: has a call answered as it is to?
func same[T comparable](t *testing.T, got, want T, what string, args ...any) {
	if got != want {
		t.Helper() // here, since very many calls pass
		t.Fatalf("%s%v: %#v, want %#v", what, args, got, want)
	}
}

// Where the formulas stand: in sheet S of book b, in another sheet, in another book.
var (
	inS     = api.Place{Book: "b", Sheet: "S", Row: 9, Col: 9}
	inT     = api.Place{Book: "b", Sheet: "T", Row: 9, Col: 9}
	inOther = api.Place{Book: "c", Sheet: "S", Row: 9, Col: 9}
)

// Changes of sheet S of book b.

func rows(at, n int) rewrite.Change {
	return rewrite.Change{Book: "b", Sheet: "S", Shift: shift.Shift{At: at, N: n, Most: api.MaxRows}}
}

func cols(at, n int) rewrite.Change {
	return rewrite.Change{Book: "b", Sheet: "S", Cols: true, Shift: shift.Shift{At: at, N: n, Most: api.MaxCols}}
}

func drop() rewrite.Change { return rewrite.Change{Book: "b", Sheet: "S", Drop: true} }

// Nodes of each kind.

func num(n int) api.Node                { return api.Node{Kind: 1, Value: api.Value{Kind: 1, N: n * 10000}} }
func gone() api.Node                    { return api.Node{Kind: 1, Value: api.Value{Kind: 4, N: 3}} }
func ref(r api.Ref) api.Node            { return api.Node{Kind: 2, Ref: r} }
func area(r, to api.Ref) api.Node       { return api.Node{Kind: 3, Ref: r, To: to} }
func neg(n api.Node) api.Node           { return api.Node{Kind: 5, S: "-", Args: []api.Node{n}} }
func call(l ...api.Node) api.Node       { return api.Node{Kind: 7, S: "F", Args: l} }
func at(row, col int) api.Ref           { return api.Ref{Row: row, Col: col} }
func of(b, s string, r api.Ref) api.Ref { r.Book, r.Sheet = b, s; return r }

// tree: what a text is parsed to.
func tree(t *testing.T, s string) api.Node {
	n, e := formula.Parse(s)
	if e != api.OK {
		t.Helper()
		t.Fatalf("Parse(%q): %d", s, e)
	}
	return n
}

// equal: are two trees alike, by all that they have?
func equal(a, b api.Node) bool {
	if a.Kind != b.Kind || a.S != b.S || a.Value != b.Value || a.Ref != b.Ref || a.To != b.To || len(a.Args) != len(b.Args) {
		return false
	}
	for i := range a.Args {
		if !equal(a.Args[i], b.Args[i]) {
			return false
		}
	}
	return true
}

// shown: a tree for one who reads it, with what it has.
func shown(n api.Node) string {
	s := "{" + strconv.Itoa(n.Kind) + " " + strconv.Quote(n.S) + fmt.Sprint(" ", n.Value, n.Ref, n.To)
	for _, a := range n.Args {
		s += " " + shown(a)
	}
	return s + "}"
}

// twin: a tree that shares nothing with n.
func twin(n api.Node) api.Node {
	var l []api.Node
	for _, a := range n.Args {
		l = append(l, twin(a))
	}
	n.Args = l
	return n
}

// turns: n becomes want, and the answer beside it is whether that is another one than n, by what is looked at in n.
func turns(t *testing.T, n api.Node, home api.Place, c rewrite.Change, want api.Node) {
	got, other := rewrite.Node(n, home, c)
	if !equal(got, want) || other == equal(bare(n, home, c), want) {
		t.Helper()
		t.Fatalf("Node(%s, %v, %v): %s, %v, want %s", shown(n), home, c, shown(got), other, shown(want))
	}
}

// texts: what Text answers.
type texts struct {
	text  string
	other bool
	e     api.Errno
}

func asked(text string, other bool, e api.Errno) texts { return texts{text, other, e} }

// becomes: a formula's text (without its =), as a tree and as a text, becomes want.
func becomes(t *testing.T, s string, home api.Place, c rewrite.Change, want string) {
	t.Helper()
	turns(t, tree(t, s), home, c, tree(t, want))
	same(t, asked(rewrite.Text("="+s, home, c)), texts{"=" + want, s != want, api.OK}, "Text", s, home, c)
}

// stays: likewise, as it was.
func stays(t *testing.T, s string, home api.Place, c rewrite.Change) {
	t.Helper()
	becomes(t, s, home, c, s)
}

// The second way: the lines written down one by one, and looked up from there.

// model: behind a change.
type model struct {
	home api.Place
	c    rewrite.Change
	old  []int // old[i]: which line stands as the (i+1)th behind the change; 0: a new one
}

func modelOf(home api.Place, c rewrite.Change) model {
	m := model{home: home, c: c}
	for p := 1; p <= c.Shift.Most; p++ {
		for n := c.Shift.N; p == c.Shift.At && n > 0; n-- {
			m.old = append(m.old, 0)
		}
		if c.Shift.N > 0 || p < c.Shift.At || p >= c.Shift.At-c.Shift.N {
			m.old = append(m.old, p)
		}
	}
	return m
}

// ours: does a ref mean the sheet?
func (m model) ours(r api.Ref) bool {
	book, sheet := r.Book, r.Sheet
	if book == "" {
		book = m.home.Book
	}
	if sheet == "" {
		sheet = m.home.Sheet
	}
	return book == m.c.Book && sheet == m.c.Sheet
}

// left: where the first and the last of the lines from lo to hi are found, as far as there are lines; 0, if none is, or if they are no lines.
func (m model) left(lo, hi int) (int, int) {
	first, last := 0, 0
	if lo < 1 || hi > m.c.Shift.Most {
		return first, last
	}
	for i, p := range m.old {
		if p == 0 || p < lo || p > hi {
			continue
		}
		if first == 0 {
			first = i + 1
		}
		last = i + 1
	}
	if first > m.c.Shift.Most {
		return 0, 0
	}
	return first, min(last, m.c.Shift.Most)
}

// bare: n, with zeros in the refs and areas of the sheet where their kinds name nothing. (It needs no lines: changes may have very many.)
func bare(n api.Node, home api.Place, c rewrite.Change) api.Node {
	m := model{home: home, c: c}
	switch {
	case n.Kind == 2 && m.ours(n.Ref):
		return ref(n.Ref)
	case n.Kind == 3 && m.ours(n.Ref):
		return area(n.Ref, n.To)
	}
	var l []api.Node
	for _, a := range n.Args {
		l = append(l, bare(a, home, c))
	}
	n.Args = l
	return n
}

// node: what Node is to answer.
func (m model) node(n api.Node) api.Node {
	switch {
	case n.Kind == 2 && m.ours(n.Ref):
		return m.ref(n.Ref)
	case n.Kind == 3 && m.ours(n.Ref):
		return m.area(n.Ref, n.To)
	}
	var l []api.Node
	for _, a := range n.Args {
		l = append(l, m.node(a))
	}
	n.Args = l
	return n
}

func (m model) ref(r api.Ref) api.Node {
	p := &r.Row
	if m.c.Cols {
		p = &r.Col
	}
	*p, _ = m.left(*p, *p)
	if m.c.Drop || *p == 0 {
		return gone()
	}
	return ref(r)
}

// line: one end of an area in one direction.
type line struct {
	p   int
	fix bool
}

// ends: the least line and the greatest one; two alike as they are.
func ends(a, b line) (line, line) {
	if b.p < a.p {
		return b, a
	}
	return a, b
}

func (m model) area(r, to api.Ref) api.Node {
	top, bottom := ends(line{r.Row, r.FixRow}, line{to.Row, to.FixRow})
	left, right := ends(line{r.Col, r.FixCol}, line{to.Col, to.FixCol})
	least, greatest := &top.p, &bottom.p
	if m.c.Cols {
		least, greatest = &left.p, &right.p
	}
	*least, *greatest = m.left(*least, *greatest)
	if m.c.Drop || *least == 0 {
		return gone()
	}
	return area(
		api.Ref{Book: r.Book, Sheet: r.Sheet, Row: top.p, Col: left.p, FixRow: top.fix, FixCol: left.fix},
		api.Ref{Book: to.Book, Sheet: to.Sheet, Row: bottom.p, Col: right.p, FixRow: bottom.fix, FixCol: right.fix})
}

// names: what Names is to answer.
func (m model) names(n api.Node) bool {
	if (n.Kind == 2 || n.Kind == 3) && m.ours(n.Ref) {
		return true
	}
	for _, a := range n.Args {
		if m.names(a) {
			return true
		}
	}
	return false
}

// Many, by chance.

func anyCell(r *rand.Rand) api.Ref {
	return api.Ref{Row: 1 + r.Intn(api.MaxRows), Col: 1 + r.Intn(api.MaxCols), FixRow: r.Intn(2) == 0, FixCol: r.Intn(2) == 0}
}

// anyRef: of the sheets that the changes and homes are of, or without one.
func anyRef(r *rand.Rand) api.Ref {
	where := [][2]string{{"", ""}, {"", ""}, {"", "S"}, {"", "T"}, {"b", "S"}, {"b", "T"}, {"c", "S"}}[r.Intn(7)]
	return of(where[0], where[1], anyCell(r))
}

// anyArea: some are of one line, in one direction or in both.
func anyArea(r *rand.Rand) api.Node {
	from, to := anyRef(r), anyCell(r)
	if r.Intn(3) == 0 {
		to.Row = from.Row
	}
	if r.Intn(3) == 0 {
		to.Col = from.Col
	}
	return area(from, to)
}

// anyTree: a good one of at most so many nodes one within the other.
func anyTree(r *rand.Rand, depth int) api.Node {
	kind := r.Intn(8)
	if depth <= 1 {
		kind = r.Intn(5)
	}
	switch kind {
	case 0, 1:
		return ref(anyRef(r))
	case 2, 3:
		return anyArea(r)
	case 4:
		return []api.Node{num(7), {Kind: 1, Value: api.Value{Kind: 2, S: "S!A1"}}, {Kind: 4, S: "tax"}, {Kind: 4, S: "S", Ref: api.Ref{Book: "b"}}, gone()}[r.Intn(5)]
	case 5:
		return api.Node{Kind: 5, S: []string{"-", "%"}[r.Intn(2)], Args: []api.Node{anyTree(r, depth-1)}}
	case 6:
		return api.Node{Kind: 6, S: []string{"+", "&", "<=", "^"}[r.Intn(4)], Args: []api.Node{anyTree(r, depth-1), anyTree(r, depth-1)}}
	}
	n := api.Node{Kind: 7, S: "SUM"}
	for range r.Intn(4) {
		n.Args = append(n.Args, anyTree(r, depth-1))
	}
	return n
}

// anyChange: of sheet S of book b, or of another one.
func anyChange(r *rand.Rand) rewrite.Change {
	c := drop()
	if r.Intn(10) > 0 {
		c = rows(1, 1)
		if r.Intn(2) == 0 {
			c = cols(1, 1)
		}
		room := c.Shift.Most
		c.Shift.At = 1 + r.Intn(room)
		room -= c.Shift.At - 1
		c.Shift.N = 1 + r.Intn(room)
		if r.Intn(2) == 0 {
			c.Shift.N = -c.Shift.N
		}
	}
	if r.Intn(4) == 0 {
		c.Sheet = "T"
	}
	if r.Intn(8) == 0 {
		c.Book = "c"
	}
	return c
}

func anyHome(r *rand.Rand) api.Place {
	return []api.Place{inS, inS, inT, inOther, {Book: "b"}, {}}[r.Intn(6)]
}
