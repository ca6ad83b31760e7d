package deps_test

import (
	"fmt"
	"math"
	"math/rand"
	"strings"
	"testing"

	"octavo/api"
	"octavo/deps"
)

// P16.2: Rects.

func TestRectsOfRefsAndAreas(t *testing.T) {
	home := at("b", "S")
	for _, l := range [][]api.Open{nil, {book("b")}, {book("c"), book("a")}} { // which books are open is not looked at
		reads(t, l, home, "1+\"A1\"&TRUE&#REF!")
		reads(t, l, home, "A1", "b.S.1.1.1.1")
		reads(t, l, home, "$C$7", "b.S.7.3.7.3")
		reads(t, l, home, "Z64", "b.S.64.26.64.26")
		reads(t, l, home, "T!B2", "b.T.2.2.2.2")
		reads(t, l, home, "[c]T!B2", "c.T.2.2.2.2")
		reads(t, l, home, "A1:B3", "b.S.1.1.3.2")
		reads(t, l, home, "A1:Z64", "b.S.1.1.64.26")
		reads(t, l, home, "T!A1:B3", "b.T.1.1.3.2")
		reads(t, l, home, "[c]T!A1:B3", "c.T.1.1.3.2")
		reads(t, l, home, "SUM(A1:B2)+A1", "b.S.1.1.2.2", "b.S.1.1.1.1")
	}
}

// TestRectsOfAreasTurnedRound: the corners may stand either way round.
func TestRectsOfAreasTurnedRound(t *testing.T) {
	for _, s := range []string{"B2:D5", "D5:B2", "B5:D2", "D2:B5", "$D2:B$5"} {
		reads(t, nil, at("b", "S"), s, "b.S.2.2.5.4")
	}
	reads(t, nil, at("b", "S"), "C3:C3", "b.S.3.3.3.3")
	reads(t, nil, at("b", "S"), "C9:C3", "b.S.3.3.9.3")
	reads(t, nil, at("b", "S"), "F3:C3", "b.S.3.3.3.6")
}

// TestRectsInEachsOrder: a node ahead of its Args, and these from the left.
func TestRectsInEachsOrder(t *testing.T) {
	reads(t, nil, at("b", "S"), "C1+A1*B1", "b.S.1.3.1.3", "b.S.1.1.1.1", "b.S.1.2.1.2")
	reads(t, nil, at("b", "S"), "F(G(H(D4),-C3%),(B2),A1)&A5", "b.S.4.4.4.4", "b.S.3.3.3.3", "b.S.2.2.2.2", "b.S.1.1.1.1", "b.S.5.1.5.1")
	l := []api.Open{book("b", name("", "x", "B1+T!B2"))}
	reads(t, l, at("b", "S"), "A1+x+C1", "b.S.1.1.1.1", "b.S.1.2.1.2", "b.T.2.2.2.2", "b.S.1.3.1.3")
	n := api.Node{Kind: 3, Ref: cell(1, 1), To: cell(2, 2), Args: []api.Node{ref(cell(3, 3)), named("", "x")}}
	alike(t, written(deps.Rects(l, at("b", "S"), call(n, ref(cell(4, 4))))), []string{"b.S.1.1.2.2", "b.S.3.3.3.3", "b.S.1.2.1.2", "b.T.2.2.2.2", "b.S.4.4.4.4"}, "Rects")
}

// TestRectsAtEachDepth: in arguments of arguments.
func TestRectsAtEachDepth(t *testing.T) {
	s := "A1"
	for depth := 2; depth <= api.MaxDepth; depth++ {
		s = "F(" + s + ")"
		reads(t, nil, at("b", "S"), s, "b.S.1.1.1.1")
	}
	n := ref(cell(1, 1))
	for range 1 << 16 {
		n = neg(n)
	}
	alike(t, written(deps.Rects(nil, at("b", "S"), n)), []string{"b.S.1.1.1.1"}, "Rects of a very deep tree")
}

func TestRectsOnce(t *testing.T) {
	home := at("b", "S")
	reads(t, nil, home, "A1+A1", "b.S.1.1.1.1")
	reads(t, nil, home, "B1+A1+B1+A1", "b.S.1.2.1.2", "b.S.1.1.1.1")
	reads(t, nil, home, "A1+$A1+A$1+S!A1+[b]S!A1+A1:A1", "b.S.1.1.1.1")
	reads(t, nil, home, "A1:B2+B2:A1+A2:B1", "b.S.1.1.2.2")
	reads(t, nil, home, "A1:B2+A1+A1:B3", "b.S.1.1.2.2", "b.S.1.1.1.1", "b.S.1.1.3.2")
	reads(t, nil, home, "A1+T!A1+[c]S!A1", "b.S.1.1.1.1", "b.T.1.1.1.1", "c.S.1.1.1.1")
	l := []api.Open{book("b", name("", "x", "C1+A1"), name("", "y", "A1+x"))}
	reads(t, l, home, "A1+x+C1", "b.S.1.1.1.1", "b.S.1.3.1.3")
	reads(t, l, home, "y+B1+x+y", "b.S.1.1.1.1", "b.S.1.3.1.3", "b.S.1.2.1.2")
}

// TestRectsAsRefsAre: what At and Box tell counts, also of refs and areas that are not good.
func TestRectsAsRefsAre(t *testing.T) {
	home := at("b", "S")
	for _, c := range []struct {
		n    api.Node
		want api.Rect
	}{
		{ref(cell(0, 0)), rect("b", "S", 0, 0, 0, 0)},
		{ref(cell(65, 27)), rect("b", "S", 65, 27, 65, 27)},
		{ref(cell(math.MinInt, math.MaxInt)), rect("b", "S", math.MinInt, math.MaxInt, math.MinInt, math.MaxInt)},
		{ref(of("c", "", cell(1, 2))), rect("c", "S", 1, 2, 1, 2)},
		{ref(of("no good", "A1", cell(1, 2))), rect("no good", "A1", 1, 2, 1, 2)},
		{area(cell(3, -1), cell(-3, 0)), rect("b", "S", -3, -1, 3, 0)},
		{area(cell(1, 1), of("c", "T", cell(2, 2))), rect("b", "S", 1, 1, 2, 2)},
		{area(of("c", "T", cell(math.MaxInt, 1)), cell(math.MinInt, 2)), rect("c", "T", math.MinInt, 1, math.MaxInt, 2)},
	} {
		alike(t, deps.Rects(nil, home, c.n), []api.Rect{c.want}, "Rects of", shown(c.n))
	}
	n := ref(cell(1, 1))
	n.To, n.S = cell(9, 9), "x"
	alike(t, deps.Rects([]api.Open{book("b", name("", "x", "B2"))}, home, n), []api.Rect{rect("b", "S", 1, 1, 1, 1)}, "Rects of a ref with more than a ref has")
	alike(t, deps.Rects(nil, api.Place{}, ref(cell(1, 1))), []api.Rect{rect("", "", 1, 1, 1, 1)}, "Rects without a home")
}

// TestRectsOfOtherKinds: whatever refs they have, they read nothing; but their Args do.
func TestRectsOfOtherKinds(t *testing.T) {
	l := []api.Open{book("b", name("", "x", "B2"))}
	for _, kind := range []int{math.MinInt, -1, 0, 1, 5, 6, 7, 8, 258, math.MaxInt} {
		n := api.Node{Kind: kind, S: "x", Ref: cell(1, 1), To: cell(2, 2)}
		alike(t, deps.Rects(l, at("b", "S"), n), nil, "Rects of kind", kind)
		n.Args = []api.Node{ref(cell(3, 3)), named("", "x")}
		alike(t, written(deps.Rects(l, at("b", "S"), n)), []string{"b.S.3.3.3.3", "b.S.2.2.2.2"}, "Rects of kind", kind)
	}
}

func TestRectsOfNames(t *testing.T) {
	l := []api.Open{
		book("b", name("", "cell", "A1"), name("", "range", "B2:A1"), name("", "sum", "SUM(C1:C3)+[c]T!A1*T!B1+C1:C3"), name("", "none", "1/5"), name("", "wrong", "A1+"), name("", "long", "A1+"+strings.Repeat("1", 253)), name("", "via", "cell+A2"),
			name("S", "own", "A3+T!A3+own2"), name("S", "own2", "A4"), name("", "own2", "A5"), name("", "wide", "own2"), name("T", "cell", "A6")),
	}
	for _, of := range []string{"", "[b]"} {
		reads(t, l, at("b", "S"), of+"cell", "b.S.1.1.1.1")
		reads(t, l, at("b", "T"), of+"cell", "b.T.6.1.6.1")
		reads(t, l, at("b", "U"), of+"cell", "b.U.1.1.1.1")
		reads(t, l, at("b", "S"), of+"range", "b.S.1.1.2.2")
		reads(t, l, at("b", "S"), of+"sum", "b.S.1.3.3.3", "c.T.1.1.1.1", "b.T.1.2.1.2")
		reads(t, l, at("b", "S"), of+"none")
		reads(t, l, at("b", "S"), of+"wrong")
		reads(t, l, at("b", "S"), of+"long")
		reads(t, l, at("b", "S"), of+"nothing")
		reads(t, l, at("b", "S"), of+"via", "b.S.1.1.1.1", "b.S.2.1.2.1")
		reads(t, l, at("b", "T"), of+"via", "b.T.6.1.6.1", "b.T.2.1.2.1")
		reads(t, l, at("b", "S"), of+"own", "b.S.3.1.3.1", "b.T.3.1.3.1", "b.S.4.1.4.1")
		reads(t, l, at("b", "S"), of+"wide", "b.S.4.1.4.1")
		reads(t, l, at("b", "T"), of+"wide", "b.T.5.1.5.1")
		reads(t, l, at("b", "T"), of+"own")
	}
	reads(t, l, at("d", "S"), "cell")
	reads(t, l, at("b", "S"), "[d]cell")
	reads(t, nil, at("b", "S"), "cell")
}

// TestRectsOfNamesOfOtherBooks: their texts name cells and names of their own book, on the sheet where the formula stands.
func TestRectsOfNamesOfOtherBooks(t *testing.T) {
	l := []api.Open{
		book("b", name("", "x", "A1"), name("", "back", "[c]back"), name("S", "x", "A2")),
		book("c", name("", "x", "B1+T!B1+[d]T!B1+[b]S!B1"), name("", "names", "y+x"), name("", "y", "C1"), name("S", "y", "C2"), name("S", "z", "C3"), name("", "back", "[b]x+x")),
	}
	reads(t, l, at("b", "S"), "[c]x", "c.S.1.2.1.2", "c.T.1.2.1.2", "d.T.1.2.1.2", "b.S.1.2.1.2")
	reads(t, l, at("b", "U"), "[c]x", "c.U.1.2.1.2", "c.T.1.2.1.2", "d.T.1.2.1.2", "b.S.1.2.1.2")
	reads(t, l, at("b", "S"), "[c]z")
	// Behind the first name home is of book c, so that its sheet S counts there.
	reads(t, l, at("b", "S"), "[c]names", "c.S.2.3.2.3", "c.S.1.2.1.2", "c.T.1.2.1.2", "d.T.1.2.1.2", "b.S.1.2.1.2")
	reads(t, l, at("b", "U"), "[c]y+[c]names", "c.U.1.3.1.3", "c.U.1.2.1.2", "c.T.1.2.1.2", "d.T.1.2.1.2", "b.S.1.2.1.2")
	// And b is another book than c, so that its sheet S does not count.
	reads(t, l, at("b", "S"), "back", "b.S.1.1.1.1", "c.S.1.2.1.2", "c.T.1.2.1.2", "d.T.1.2.1.2", "b.S.1.2.1.2")
	reads(t, l, at("e", "S"), "[c]x+A1", "c.S.1.2.1.2", "c.T.1.2.1.2", "d.T.1.2.1.2", "b.S.1.2.1.2", "e.S.1.1.1.1")
}

// chain: names n1, n2, .. of one book, each of which names the next one, ahead of a cell of its own; the last one names no more.
func chain(length int) []api.Open {
	var l []api.Name
	for i := 1; i <= length; i++ {
		text := fmt.Sprintf("A%d", i)
		if i < length {
			text = fmt.Sprintf("n_%d+%s", i+1, text)
		}
		l = append(l, name("", fmt.Sprintf("n_%d", i), text))
	}
	return []api.Open{book("b", l...)}
}

// TestRectsOfNamesInNames: to a depth of 8, the formula's own being the first.
func TestRectsOfNamesInNames(t *testing.T) {
	for length := 1; length <= 12; length++ {
		l := chain(length)
		var want []string
		for i := min(length, 8); i >= 1; i-- {
			want = append(want, fmt.Sprintf("b.S.%d.1.%d.1", i, i))
		}
		reads(t, l, at("b", "S"), "n_1", want...)
		reads(t, l, at("b", "S"), "F(-n_1)+n_1", want...)
		if length > 8 { // one that is too deep may stand less deep too
			reads(t, l, at("b", "S"), "n_1+n_9", append(want, expectChain(length, 9)...)...)
			reads(t, l, at("b", "S"), "n_9+n_1", append(expectChain(length, 9), want...)...)
		}
		if length >= 9 {
			reads(t, l, at("b", "S"), "n_2+n_1", append(expectChain(min(length, 9), 2), "b.S.1.1.1.1")...)
		}
	}
}

// expectChain: the cells of the names from one on, the last one's first.
func expectChain(length, from int) []string {
	var l []string
	for i := length; i >= from; i-- {
		l = append(l, fmt.Sprintf("b.S.%d.1.%d.1", i, i))
	}
	return l
}

// TestRectsOfNamesOfOneAnother: rings of names end with the depth, and what is told first is told there.
func TestRectsOfNamesOfOneAnother(t *testing.T) {
	l := []api.Open{book("b", name("", "x", "x"), name("", "y", "A1+y+A2"), name("", "p", "q+A3"), name("", "q", "p+A4"), name("", "u", "B1+u+v+B2"), name("", "v", "B3"))}
	reads(t, l, at("b", "S"), "x")
	reads(t, l, at("b", "S"), "y", "b.S.1.1.1.1", "b.S.2.1.2.1")
	reads(t, l, at("b", "S"), "p", "b.S.4.1.4.1", "b.S.3.1.3.1")
	reads(t, l, at("b", "S"), "q", "b.S.3.1.3.1", "b.S.4.1.4.1")
	// The innermost u is the eighth, so that v means nothing in it, and B2 comes ahead of B3.
	reads(t, l, at("b", "S"), "u", "b.S.1.2.1.2", "b.S.2.2.2.2", "b.S.3.2.3.2")
	far := []api.Open{book("b", name("", "x", "[c]x+A1")), book("c", name("", "x", "[b]x+A2"))}
	reads(t, far, at("b", "S"), "x", "c.S.2.1.2.1", "b.S.1.1.1.1")
	reads(t, far, at("d", "S"), "[b]x", "c.S.2.1.2.1", "b.S.1.1.1.1")
}

// TestRectsOfVeryManyNames: each of which names all others, so that written out they would be too many.
func TestRectsOfVeryManyNames(t *testing.T) {
	var all []string
	for i := range api.MaxNames {
		all = append(all, fmt.Sprintf("n_%d", i))
	}
	text := "F(" + strings.Join(all[:16], ",") + ")+F(" + strings.Join(all[16:], ",") + ")"
	var l []api.Name
	var want []string
	for i, s := range all {
		l = append(l, name("", s, fmt.Sprintf("A%d+", i+1)+text))
		want = append(want, fmt.Sprintf("b.S.%d.1.%d.1", i+1, i+1))
	}
	books := []api.Open{book("b", l...)}
	got := deps.Rects(books, at("b", "S"), tree(t, all[0]))
	alike(t, written(got), want, "Rects of very many names")
}

func TestRectsByTheModel(t *testing.T) {
	r := rand.New(rand.NewSource(2))
	many := 0
	for range 20000 {
		l, home := anyBooks(r), anyHome(r)
		n := tree(t, "F("+anyFormula(r)+",-("+anyFormula(r)+"))+"+anyFormula(r))
		want := once(expanded(l, home, n, 8))
		alike(t, deps.Rects(l, home, n), want, "Rects of", shown(n), home, l)
		if len(want) > 4 {
			many++
		}
	}
	if many < 1000 {
		t.Fatalf("only %d read many", many)
	}
}

// P16.2: In.

func TestIn(t *testing.T) {
	for r1 := range 4 {
		for r2 := range 4 {
			for c1 := range 4 {
				for c2 := range 4 {
					x := rect("b", "S", r1, c1, r2, c2)
					for row := -1; row < 5; row++ {
						for col := -1; col < 5; col++ {
							p := api.Place{Book: "b", Sheet: "S", Row: row, Col: col}
							has := row >= r1 && row <= r2 && col >= c1 && col <= c2
							same(t, deps.In(x, p), has, "In", x, p)
							for _, where := range [][2]string{{"b", "T"}, {"c", "S"}, {"S", "b"}, {"", "S"}, {"b", ""}, {"B", "S"}, {"", ""}} {
								p.Book, p.Sheet = where[0], where[1]
								same(t, deps.In(x, p), false, "In", x, p)
							}
						}
					}
				}
			}
		}
	}
}

func TestInAtTheEnds(t *testing.T) {
	all := rect("", "", math.MinInt, math.MinInt, math.MaxInt, math.MaxInt)
	for _, i := range []int{math.MinInt, -1, 0, 1, math.MaxInt} {
		for _, j := range []int{math.MinInt, -1, 0, 1, math.MaxInt} {
			same(t, deps.In(all, api.Place{Row: i, Col: j}), true, "In of all", i, j)
			same(t, deps.In(rect("", "", i, j, i, j), api.Place{Row: i, Col: j}), true, "In of one", i, j)
		}
	}
	turned := rect("", "", math.MaxInt, math.MaxInt, math.MinInt, math.MinInt)
	same(t, deps.In(turned, api.Place{}), false, "In of what is turned round")
	same(t, deps.In(api.Rect{}, api.Place{}), true, "In of zeros")
}
