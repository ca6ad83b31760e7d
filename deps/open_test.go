package deps_test

import (
	"math/rand"
	"testing"

	"octavo/api"
	"octavo/deps"
)

// P16.1

// full: a book with all that a book has.
func full(s string) api.Book {
	return api.Book{
		Sheets: []api.Sheet{{Name: s, Cells: []api.Cell{{Row: 1, Col: 1, Text: "=A2"}, {Row: 2, Col: 1, Text: "5"}}}, {Name: "Empty"}},
		Names:  []api.Name{name("", "tax", "1/5")},
		Links:  []api.Link{{Book: "z", Sheet: "S", Row: 1, Col: 1, Value: api.Value{Kind: 2, S: "x"}}},
	}
}

// opens: Open's answer is that, and nothing beside false.
func opens(t *testing.T, l []api.Open, name string, want api.Book, is bool) {
	t.Helper()
	b, ok := deps.Open(l, name)
	same(t, ok, is, "Open", name)
	same(t, equal(b, want), true, "the book of Open", name)
}

func TestOpen(t *testing.T) {
	l := []api.Open{{Name: "a", Book: full("A")}, {Name: "b", Book: full("B")}, {Name: "c"}}
	opens(t, l, "a", full("A"), true)
	opens(t, l, "b", full("B"), true)
	opens(t, l, "c", api.Book{}, true)
	for _, s := range []string{"", "d", "A", "ab", "a ", "\xff", "aa"} {
		opens(t, l, s, api.Book{}, false)
	}
	for _, s := range []string{"", "a"} {
		opens(t, nil, s, api.Book{}, false)
		opens(t, []api.Open{}, s, api.Book{}, false)
	}
}

func TestOpenTellsTheFirstOfThatName(t *testing.T) {
	l := []api.Open{{Name: "b", Book: full("X")}, {Name: "a", Book: full("A")}, {Name: "a", Book: full("B")}, {Name: "b"}, {Book: full("N")}, {}}
	opens(t, l, "a", full("A"), true)
	opens(t, l, "b", full("X"), true)
	opens(t, l, "", full("N"), true)
	opens(t, append([]api.Open{{Name: "a"}}, l...), "a", api.Book{}, true)
}

// twoBooks: with names of all scopes.
func twoBooks() []api.Open {
	return []api.Open{
		book("a", name("", "all", "1"), name("", "both", "2"), name("S", "both", "3"), name("S", "own", "4"), name("T", "own", "5")),
		book("b", name("", "all", "6"), name("S", "own", "7"), name("", "far", "8"), name("S", "far", "9")),
		book("a", name("", "late", "10"), name("", "all", "11")),
	}
}

// mean: Names of a name, in a formula at home, is that; no book: it means nothing.
func mean(t *testing.T, home api.Place, inBook, s string, want api.Name, of string) {
	t.Helper()
	same(t, asked(deps.Names(twoBooks(), home, named(inBook, s))), meaning{want, of, of != ""}, "Names of", inBook, s, home)
}

func TestNamesOfHome(t *testing.T) {
	for _, of := range []string{"", "a"} { // home's own book is not another one, if it is named
		mean(t, at("a", "S"), of, "all", name("", "all", "1"), "a")
		mean(t, at("a", "S"), of, "both", name("S", "both", "3"), "a")
		mean(t, at("a", "T"), of, "both", name("", "both", "2"), "a")
		mean(t, at("a", "S"), of, "own", name("S", "own", "4"), "a")
		mean(t, at("a", "T"), of, "own", name("T", "own", "5"), "a")
		mean(t, at("a", "U"), of, "own", api.Name{}, "")
		mean(t, at("a", ""), of, "own", api.Name{}, "")
		mean(t, at("a", ""), of, "both", name("", "both", "2"), "a")
		mean(t, at("a", "S"), of, "none", api.Name{}, "")
		mean(t, at("a", "S"), of, "", api.Name{}, "")
		mean(t, at("a", "S"), of, "ALL", api.Name{}, "")
	}
}

// TestNamesOfTheFirstBook: of two of one name the other does not count, even for what the first one has not.
func TestNamesOfTheFirstBook(t *testing.T) {
	for _, of := range []string{"", "a"} {
		mean(t, at("a", "S"), of, "late", api.Name{}, "")
	}
	mean(t, at("b", "S"), "a", "late", api.Name{}, "")
	mean(t, at("b", "S"), "a", "all", name("", "all", "1"), "a")
}

func TestNamesOfAnotherBook(t *testing.T) {
	mean(t, at("a", "S"), "b", "all", name("", "all", "6"), "b")
	mean(t, at("a", "S"), "b", "own", api.Name{}, "")
	mean(t, at("a", "S"), "b", "far", name("", "far", "8"), "b")
	mean(t, at("a", "S"), "b", "both", api.Name{}, "")
	mean(t, at("a", "S"), "c", "all", api.Name{}, "")
	mean(t, at("a", ""), "b", "own", api.Name{}, "")
}

func TestNamesWithoutHome(t *testing.T) {
	mean(t, at("c", "S"), "", "all", api.Name{}, "")
	mean(t, at("c", "S"), "c", "all", api.Name{}, "")
	mean(t, at("c", "S"), "a", "all", name("", "all", "1"), "a")
	mean(t, at("c", "S"), "a", "both", name("", "both", "2"), "a")
	mean(t, at("", "S"), "", "all", api.Name{}, "")
	same(t, asked(deps.Names(nil, at("a", "S"), named("a", "all"))), meaning{}, "Names of no books")
}

// TestNamesOfABookWithoutAName: the open book that is called nothing is home's, if home's book is.
func TestNamesOfABookWithoutAName(t *testing.T) {
	l := []api.Open{book("", name("S", "x", "1"))}
	same(t, asked(deps.Names(l, at("", "S"), named("", "x"))), meaning{name("S", "x", "1"), "", true}, "Names")
	same(t, asked(deps.Names(l, at("a", "S"), named("", "x"))), meaning{}, "Names")
}

// TestNamesAreToldAsTheyAre: whatever their texts are.
func TestNamesAreToldAsTheyAre(t *testing.T) {
	for _, s := range []string{"", "(", "=1", "\xff", "1 + 1"} {
		x := name("", "x", s)
		same(t, asked(deps.Names([]api.Open{book("a", x)}, at("a", "S"), named("", "x"))), meaning{x, "a", true}, "Names")
	}
}

// TestNamesLooksAtSAndBookAlone: what else a node has is not what its kind names.
func TestNamesLooksAtSAndBookAlone(t *testing.T) {
	n := named("", "both")
	n.Value, n.To, n.Args = api.Value{Kind: 1, N: 1}, of("b", "T", cell(1, 1)), []api.Node{named("", "all")}
	n.Ref = api.Ref{Sheet: "T", Row: 3, Col: 4, FixRow: true}
	same(t, asked(deps.Names(twoBooks(), at("a", "S"), n)), meaning{name("S", "both", "3"), "a", true}, "Names")
}

func TestNamesOfOtherKinds(t *testing.T) {
	for kind := -1; kind < 9; kind++ {
		n := named("", "all")
		if n.Kind = kind; kind != api.NodeName {
			same(t, asked(deps.Names(twoBooks(), at("a", "S"), n)), meaning{}, "Names of kind", kind)
		}
	}
}

func TestNamesByTheModel(t *testing.T) {
	r := rand.New(rand.NewSource(1))
	found, unfound := 0, 0
	for range 100000 {
		l, home := anyBooks(r), anyHome(r)
		of, s := []string{"", "a", "b", "c", "d"}[r.Intn(5)], []string{"x", "y", "z"}[r.Intn(3)]
		want := means(l, home, of, s)
		same(t, asked(deps.Names(l, home, named(of, s))), want, "Names of", l, home, of, s)
		if want.ok {
			found++
		} else {
			unfound++
		}
	}
	if found < 5000 || unfound < 5000 {
		t.Fatalf("only %d mean something, and %d nothing", found, unfound)
	}
}
