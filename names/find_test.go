package names_test

import (
	"math/rand"
	"slices"
	"testing"

	"octavo/api"
	"octavo/names"
)

// P11.1: Cmp

// TestCmp: of all pairs of a list that rises.
func TestCmp(t *testing.T) {
	var l []api.Name
	for _, scope := range append([]string{"", "\x00", "\x00\x00", " ", "1"}, append(near(), "é", "\xff", "\xff\x00")...) {
		for _, s := range append([]string{"", "\x00", "\x00\x00", " ", "1"}, append(near(), "é", "\xff", "\xff\x00")...) {
			l = append(l, name(scope, s, ""))
		}
	}
	for i, a := range l {
		for j, b := range l {
			want := 0
			if i < j {
				want = -1
			} else if i > j {
				want = 1
			}
			same(t, names.Cmp(a, b), want, "Cmp", a, b)
		}
	}
}

// TestCmpOfScopesFirst: no name makes up for a Scope, and the two are not one text.
func TestCmpOfScopesFirst(t *testing.T) {
	same(t, names.Cmp(name("a", "z", ""), name("b", "a", "")), -1, "Cmp")
	same(t, names.Cmp(name("b", "a", ""), name("a", "z", "")), 1, "Cmp")
	same(t, names.Cmp(name("ab", "c", ""), name("a", "bc", "")), 1, "Cmp")
	same(t, names.Cmp(name("a", "bc", ""), name("ab", "c", "")), -1, "Cmp")
	same(t, names.Cmp(name("", "ab", ""), name("ab", "", "")), -1, "Cmp")
	same(t, names.Cmp(name("", "z", ""), name("A", "a", "")), -1, "Cmp")
	same(t, names.Cmp(name("Z", "a", ""), name("a", "a", "")), -1, "Cmp")
	same(t, names.Cmp(name("é", "a", ""), name("z", "a", "")), 1, "Cmp")
}

func TestCmpDoesNotLookAtTexts(t *testing.T) {
	for _, a := range []string{"", "1", "2", "\xff"} {
		for _, b := range []string{"", "1", "2", "\xff"} {
			same(t, names.Cmp(name("Jan", "tax", a), name("Jan", "tax", b)), 0, "Cmp", a, b)
			same(t, names.Cmp(name("Jan", "tax", a), name("Jan", "taxa", b)), -1, "Cmp", a, b)
			same(t, names.Cmp(name("b", "tax", a), name("a", "tax", b)), 1, "Cmp", a, b)
			same(t, names.Cmp(name("", "", a), name("", "", b)), 0, "Cmp", a, b)
		}
	}
}

// P11.1: Find

func TestFind(t *testing.T) {
	for _, x := range some() {
		same(t, asked(names.Find(some(), x.Scope, x.Name)), maybe{x, true}, "Find", x.Scope, x.Name)
	}
}

func TestFindOfNone(t *testing.T) {
	for _, x := range [][2]string{{"", ""}, {"", "Tax"}, {"", "TAX"}, {"", "ta"}, {"", "taxa"}, {"", "base"}, {"", "\xff"}, {"Jan", ""}, {"Jan", "rate"}, {"Jan", "Tax"}, {"JAN", "tax"}, {"jan", "tax"}, {"Ja", "tax"}, {"Jan ", "tax"}, {"Ja", "ntax"}, {"Mar", "tax"}, {"tax", ""}, {"tax", "tax"}, {"A1", "tax"}, {"\xff", "\xff"}} {
		same(t, asked(names.Find(some(), x[0], x[1])), none, "Find", x)
		same(t, asked(names.Find(nil, x[0], x[1])), none, "Find in no list", x)
		same(t, asked(names.Find([]api.Name{}, x[0], x[1])), none, "Find in an empty list", x)
	}
}

// TestFindInAnyOrder: a list need not rise.
func TestFindInAnyOrder(t *testing.T) {
	for _, l := range orders(some()) {
		for _, x := range some() {
			same(t, asked(names.Find(l, x.Scope, x.Name)), maybe{x, true}, "Find", l, x)
		}
		same(t, asked(names.Find(l, "Jan", "rate")), none, "Find", l)
	}
}

// TestFindTellsTheFirst: of several of one Scope and Name, wherever they stand.
func TestFindTellsTheFirst(t *testing.T) {
	l := []api.Name{name("Jan", "tax", "1"), name("Jan", "tax", "2"), name("", "tax", "3"), name("", "tax", "4"), name("", "tax", "5")}
	for _, l := range orders(l) {
		for _, scope := range []string{"", "Jan"} {
			first := l[slices.IndexFunc(l, func(x api.Name) bool { return x.Scope == scope })]
			same(t, asked(names.Find(l, scope, "tax")), maybe{first, true}, "Find", l, scope)
		}
	}
}

// TestFindOfNear: names that differ little are not taken for each other.
func TestFindOfNear(t *testing.T) {
	for i, in := range near() {
		l := []api.Name{name("", in, "1"), name(in, "tax", "2")}
		for j, s := range near() {
			got, want := asked(names.Find(l, "", s)), none
			if i == j {
				want = maybe{l[0], true}
			}
			same(t, got, want, "Find", l, s)
			got, want = asked(names.Find(l, s, "tax")), none
			if i == j {
				want = maybe{l[1], true}
			}
			same(t, got, want, "Find", l, s)
		}
	}
}

// TestFindOfWhatMayNotBe: Find does not ask whether a name is good, nor how many there are.
func TestFindOfWhatMayNotBe(t *testing.T) {
	for _, s := range append(noNames(), "") {
		x, y := name(s, "tax", "("), name("Jan", s, "")
		l := append(numbered("Feb", 50), x, y)
		same(t, asked(names.Find(l, s, "tax")), maybe{x, true}, "Find", s)
		same(t, asked(names.Find(l, "Jan", s)), maybe{y, true}, "Find", s)
	}
}

// P11.1: Resolve

func TestResolveOfTheExample(t *testing.T) {
	l, e := names.Define(nil, name("", "tax", "1/5"))
	same(t, e, api.OK, "Define")
	same(t, asked(names.Resolve(l, "Jan", "tax")), maybe{name("", "tax", "1/5"), true}, "Resolve")
	l, e = names.Define(l, name("Jan", "tax", "1/4"))
	same(t, e, api.OK, "Define")
	same(t, asked(names.Resolve(l, "Jan", "tax")), maybe{name("Jan", "tax", "1/4"), true}, "Resolve")
	same(t, asked(names.Resolve(l, "Feb", "tax")), maybe{name("", "tax", "1/5"), true}, "Resolve")
}

func TestResolve(t *testing.T) {
	for _, x := range []struct {
		sheet, name string
		want        maybe
	}{
		{"Jan", "tax", maybe{name("Jan", "tax", "1/4"), true}},
		{"Feb", "tax", maybe{name("Feb", "tax", "1/3"), true}},
		{"jan", "Tax", maybe{name("jan", "Tax", "2"), true}},
		// The book's, where the sheet has none of its own, or there is no such sheet.
		{"jan", "tax", maybe{name("", "tax", "1/5"), true}},
		{"JAN", "tax", maybe{name("", "tax", "1/5"), true}},
		{"Jan", "rate", maybe{name("", "rate", "5%"), true}},
		{"Mar", "rate", maybe{name("", "rate", "5%"), true}},
		{"\xff", "rate", maybe{name("", "rate", "5%"), true}},
		{"A1", "rate", maybe{name("", "rate", "5%"), true}},
		// An empty sheet's are the book's.
		{"", "tax", maybe{name("", "tax", "1/5"), true}},
		{"", "rate", maybe{name("", "rate", "5%"), true}},
		// Another sheet's mean nothing.
		{"", "base", none}, {"Feb", "base", none}, {"", "Tax", none}, {"Jan", "Tax", none}, {"Jan", "", none}, {"", "", none}, {"", "Rate", none}, {"tax", "Jan", none},
	} {
		for _, l := range orders(some()) {
			same(t, asked(names.Resolve(l, x.sheet, x.name)), x.want, "Resolve", l, x.sheet, x.name)
		}
		same(t, asked(names.Resolve(nil, x.sheet, x.name)), none, "Resolve in no list", x.sheet, x.name)
		same(t, asked(names.Resolve([]api.Name{}, x.sheet, x.name)), none, "Resolve in an empty list", x.sheet, x.name)
	}
}

// TestResolveTellsTheFirst: of the sheet's, even if the book's stand ahead.
func TestResolveTellsTheFirst(t *testing.T) {
	l := []api.Name{name("", "tax", "1"), name("", "tax", "2"), name("Jan", "tax", "3"), name("Jan", "tax", "4")}
	same(t, asked(names.Resolve(l, "Jan", "tax")), maybe{l[2], true}, "Resolve")
	same(t, asked(names.Resolve(l, "Feb", "tax")), maybe{l[0], true}, "Resolve")
	same(t, asked(names.Resolve(l, "", "tax")), maybe{l[0], true}, "Resolve")
}

// TestFindAndResolveOfAnyLists: held against a search for each.
func TestFindAndResolveOfAnyLists(t *testing.T) {
	first := func(l []api.Name, scope, s string) maybe {
		for _, x := range l {
			if x.Scope == scope && x.Name == s {
				return maybe{x, true}
			}
		}
		return none
	}
	r := rand.New(rand.NewSource(1))
	found, hidden := 0, 0
	for range 20000 {
		l := wild(r)
		if r.Intn(2) == 0 {
			l = rising(r)
			r.Shuffle(len(l), func(i, j int) { l[i], l[j] = l[j], l[i] })
		}
		x := anyName(r)
		if len(l) > 0 && r.Intn(2) == 0 {
			x = l[r.Intn(len(l))]
		}
		own, books := first(l, x.Scope, x.Name), first(l, "", x.Name)
		same(t, asked(names.Find(l, x.Scope, x.Name)), own, "Find", l, x)
		want := own
		if !own.ok {
			want = books
		}
		same(t, asked(names.Resolve(l, x.Scope, x.Name)), want, "Resolve", l, x)
		if own.ok {
			found++
		}
		if own.ok && books.ok && x.Scope != "" {
			hidden++
		}
	}
	if found < 5000 || hidden < 500 {
		t.Fatalf("only %d were found, and %d hidden", found, hidden)
	}
}
