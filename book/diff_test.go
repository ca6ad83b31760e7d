package book_test

import (
	"fmt"
	"math"
	"math/rand"
	"slices"
	"testing"

	"octavo/api"
	"octavo/book"
)

// P15.3: Diff and All.

// differs: Diff tells those changes, and they make b of a.
func differs(t *testing.T, a, b api.Book, want ...api.Op) {
	t.Helper()
	l, ok := book.Diff(a, b)
	same(t, ok, true, "Diff")
	alikeOps(t, l, want, "Diff")
	after, _, e := book.All(a, "b", l)
	same(t, e, api.OK, "All of Diff")
	alike(t, after, b, "All of Diff")
}

func TestDiff(t *testing.T) {
	differs(t, some(), some())
	differs(t, book.New(), book.New())
	// Sheets in their order, cells by rows and columns; names; links.
	a := made("T: A1 x | B1 y | A2 =A1 | A3 z", "S: Z1 1 | A2 2", "U: A1 x",
		"m := 1", "n := 1", "S.m := 1", "T.o := A1", "[c]S!A1 1", "[c]S!A2 2", "[c]S!A3 3", "[d]S!A1 4")
	b := made("T: A1 w | B1 y | C1 new | A2 = A1 | B2 new", "S: A2 2 | B2 new | A64 new", "U: A1 x",
		"l := 1", "n := 2", "S.m := 1", "T.n := A1", "[c]S!A1 1", "[c]S!B1 x", "[c]S!A2 '2", "[c]T!A1", "[d]S!A1 4")
	differs(t, a, b,
		set("T!A1", "w"), set("T!C1", "new"), set("T!A2", "= A1"), set("T!B2", "new"), set("T!A3", ""), set("S!Z1", ""), set("S!B2", "new"), set("S!A64", "new"),
		define("l", "1"), define("m", ""), define("n", "2"), define("T.n", "A1"), define("T.o", ""),
		cache("[c]S!B1", "x"), cache("[c]S!A2", "'2"), uncache("[c]S!A3"), cache("[c]T!A1", ""))
	differs(t, b, a,
		set("T!A1", "x"), set("T!C1", ""), set("T!A2", "=A1"), set("T!B2", ""), set("T!A3", "z"), set("S!Z1", "1"), set("S!B2", ""), set("S!A64", ""),
		define("l", ""), define("m", "1"), define("n", "1"), define("T.n", ""), define("T.o", "A1"),
		uncache("[c]S!B1"), cache("[c]S!A2", "2"), cache("[c]S!A3", "3"), uncache("[c]T!A1"))
	// All, and nothing.
	bare := made("T:", "S:", "U:")
	differs(t, bare, a, set("T!A1", "x"), set("T!B1", "y"), set("T!A2", "=A1"), set("T!A3", "z"), set("S!Z1", "1"), set("S!A2", "2"), set("U!A1", "x"),
		define("m", "1"), define("n", "1"), define("S.m", "1"), define("T.o", "A1"), cache("[c]S!A1", "1"), cache("[c]S!A2", "2"), cache("[c]S!A3", "3"), cache("[d]S!A1", "4"))
	differs(t, a, bare, set("T!A1", ""), set("T!B1", ""), set("T!A2", ""), set("T!A3", ""), set("S!Z1", ""), set("S!A2", ""), set("U!A1", ""),
		define("m", ""), define("n", ""), define("S.m", ""), define("T.o", ""), uncache("[c]S!A1"), uncache("[c]S!A2"), uncache("[c]S!A3"), uncache("[d]S!A1"))
	// Values that show the same are not the same.
	differs(t, made("S:", "[c]S!A1 '1"), made("S:", "[c]S!A1 1"), cache("[c]S!A1", "1"))
	differs(t, made("S: A1 1"), made("S: A1 1.0"), set("S!A1", "1.0"))
}

func TestDiffOfOtherSheets(t *testing.T) {
	a := made("S: A1 x", "T:", "n := 1")
	for _, b := range []api.Book{{}, made("S: A1 x"), made("T:", "S: A1 x", "n := 1"), made("S: A1 x", "T:", "U:", "n := 1"), made("S: A1 x", "t:", "n := 1"), made("T:", "T:"), made("T:", "S:", "T:")} {
		for _, l := range [][2]api.Book{{a, b}, {b, a}} {
			got, ok := book.Diff(l[0], l[1])
			same(t, ok, false, "Diff")
			same(t, len(got), 0, "Diff")
		}
	}
	l, ok := book.Diff(api.Book{}, api.Book{Sheets: []api.Sheet{}})
	same(t, ok, true, "Diff of nothing")
	same(t, len(l), 0, "Diff of nothing")
}

// Whatever the order in which a book's lists stand, what differs is told in order; of several the first counts.
func TestDiffOfBooksThatAreNotRight(t *testing.T) {
	r := rand.New(rand.NewSource(1))
	a := made("T: A1 x | B1 y | A2 =A1 | A3 z", "m := 1", "n := 1", "S.m := 1", "[c]S!A1 1", "[c]S!A2 2", "[d]S!A1 4")
	b := made("T: A1 w | C1 new | A3 z", "l := 1", "n := 2", "S.m := 1", "[c]S!A1 1", "[c]S!B1 x", "[d]S!A1 5")
	want, ok := book.Diff(a, b)
	same(t, ok, true, "Diff")
	same(t, len(want), 10, "Diff")
	for range 200 {
		x, y := with(a, func(*api.Book) {}), with(b, func(*api.Book) {})
		for _, z := range []*api.Book{&x, &y} {
			shuffle(r, z.Sheets[0].Cells)
			shuffle(r, z.Names)
			shuffle(r, z.Links)
		}
		got, ok := book.Diff(x, y)
		same(t, ok, true, "Diff")
		alikeOps(t, got, want, "Diff", shown(x), shown(y))
		x.Sheets[0].Cells = append(x.Sheets[0].Cells, cells("A1 other")...)
		y.Names = append(y.Names, name("n", "3"), name("n", "4"))
		y.Links = append(y.Links, link("[d]S!A1", "6"))
		got, _ = book.Diff(x, y)
		alikeOps(t, got, want, "Diff", shown(x), shown(y))
	}
	// The first of many.
	var l []api.Link
	for i := range 100 {
		l = append(l, link("[c]S!A1", fmt.Sprint(i)), link("[c]S!A2", fmt.Sprint(i)))
	}
	got, _ := book.Diff(api.Book{}, api.Book{Links: l})
	alikeOps(t, got, []api.Op{cache("[c]S!A1", "0"), cache("[c]S!A2", "0")}, "Diff")
	far := api.Book{Sheets: []api.Sheet{page("", api.Cell{Row: math.MinInt, Col: math.MaxInt, Text: "x"})}}
	got, ok = book.Diff(api.Book{Sheets: []api.Sheet{{}}}, far)
	same(t, ok, true, "Diff")
	alikeOps(t, got, []api.Op{{Kind: 1, Row: math.MinInt, Col: math.MaxInt, Text: "x"}}, "Diff")
}

func shuffle[T any](r *rand.Rand, l []T) {
	r.Shuffle(len(l), func(i, j int) { l[i], l[j] = l[j], l[i] })
}

func TestAll(t *testing.T) {
	b := made("S: A1 =A2")
	l := []api.Op{add("T", 1, "A1 =S!A1"), set("S!A2", "x"), rows("S", 1, 1), define("n", "S!A2"), cache("[c]S!A1", "5"), drop("T")}
	want := made("S: A2 =A3 | A3 x", "n := S!A2", "[c]S!A1 5")
	back := []api.Op{add("T", 1, "A1 =S!A2"), uncache("[c]S!A1"), define("n", ""), rows("S", 1, -1), set("S!A2", ""), drop("T")}
	answers(t, asked(book.All(b, "b", l)), want, back, "All")
	answers(t, asked(book.All(want, "b", back)), b, l, "All of the way back")
	// A way of several changes stays in its order.
	l = []api.Op{rows("S", 2, -1), set("S!B1", "x")}
	answers(t, asked(book.All(made("S: A1 =A2 | A2 7"), "b", l)), made("S: A1 =#REF! | B1 x"),
		[]api.Op{set("S!B1", ""), rows("S", 2, 1), set("S!A1", "=A2"), set("S!A2", "7")}, "All")
}

func TestAllWithAnError(t *testing.T) {
	b := some()
	was := shown(b)
	good := []api.Op{set("S!A1", "7"), rows("T", 1, 1), define("tax", "1")}
	for _, x := range []struct {
		o api.Op
		e api.Errno
	}{{set("X!A1", "7"), api.ErrNone}, {set("S!A1", "=("), api.ErrForm}, {api.Op{Kind: 99}, api.ErrArg}, {add("T", 0, ""), api.ErrExists}, {cols("S", 1, 1), api.ErrRange}, {outDrop("b", "S"), api.ErrArg}} {
		for i := range len(good) + 1 {
			l := slices.Insert(slices.Clone(good), i, x.o)
			refuses(t, asked(book.All(b, "b", l)), x.e, "All", l)
			// The first error counts, and not what comes behind.
			refuses(t, asked(book.All(b, "b", append(l, api.Op{Kind: -1}))), x.e, "All", l)
		}
	}
	same(t, shown(b), was, "the book behind All")
	// What one change makes the next one may need.
	_, _, e := book.All(b, "b", []api.Op{set("V!A1", "x"), add("V", 0, "")})
	same(t, e, api.ErrNone, "All")
	_, _, e = book.All(b, "b", []api.Op{add("V", 0, ""), set("V!A1", "x")})
	same(t, e, api.OK, "All")
	for _, n := range noNames() {
		refuses(t, asked(book.All(b, n, good)), api.ErrName, "All", n)
		refuses(t, asked(book.All(api.Book{}, n, good)), api.ErrName, "All", n)
	}
}

func TestAllOfNothing(t *testing.T) {
	for _, l := range [][]api.Op{nil, {}} {
		for _, b := range []api.Book{some(), book.New()} {
			answers(t, asked(book.All(b, "b", l)), b, nil, "All of nothing")
			// No change asks for the name.
			answers(t, asked(book.All(b, "", l)), b, nil, "All of nothing")
		}
		for _, f := range faults() {
			refuses(t, asked(book.All(with(some(), f.put), "b", l)), f.e, "All of nothing", f.what)
		}
	}
}

func TestAllOfWrongBooks(t *testing.T) {
	for _, f := range faults() {
		refuses(t, asked(book.All(with(some(), f.put), "b", kinds()[:2])), f.e, "All", f.what)
	}
}

// A long list is gone through in no time, though each change has a way back.
func TestAllOfManyChanges(t *testing.T) {
	b := api.Book{Sheets: []api.Sheet{page("S", many(200)...)}}
	var l []api.Op
	for i := range 20000 {
		l = append(l, api.Op{Kind: api.OpSet, Sheet: "S", Row: 1 + i%7, Col: 1, Text: many(2)[i%2].Text})
	}
	got := asked(book.All(b, "b", l))
	same(t, got.e, api.OK, "All")
	same(t, len(got.back), len(l), "All")
	again, _, e := book.All(got.b, "b", got.back)
	same(t, e, api.OK, "All")
	alike(t, again, b, "All")
}
