package names_test

import (
	"bytes"
	"math/rand"
	"slices"
	"strings"
	"testing"

	"octavo/api"
	"octavo/names"
)

// same: has a call answered as it is to?
func same[T comparable](t *testing.T, got, want T, what string, args ...any) {
	if got != want {
		t.Helper() // here, since very many calls pass
		t.Fatalf("%s%#v: %#v, want %#v", what, args, got, want)
	}
}

// alike: has a call answered these names?
func alike(t *testing.T, got, want []api.Name, what string, args ...any) {
	if !slices.Equal(got, want) {
		t.Helper()
		t.Fatalf("%s%#v: %q, want %q", what, args, got, want)
	}
}

// list: what a call answers that may tell names.
type list struct {
	l []api.Name
	e api.Errno
}

func listed(l []api.Name, e api.Errno) list {
	return list{l, e}
}

// answers: names, and no error.
func answers(t *testing.T, got list, want []api.Name, what string, args ...any) {
	t.Helper()
	same(t, got.e, api.OK, what, args...)
	alike(t, got.l, want, what, args...)
}

// refuses: an error, and nothing beside it.
func refuses(t *testing.T, got list, want api.Errno, what string, args ...any) {
	t.Helper()
	same(t, got.e, want, what, args...)
	same(t, len(got.l), 0, what, args...)
}

// maybe: what a call answers that may tell a name.
type maybe struct {
	x  api.Name
	ok bool
}

var none = maybe{}

func asked(x api.Name, ok bool) maybe {
	return maybe{x, ok}
}

// name: of a scope.
func name(scope, s, text string) api.Name {
	return api.Name{Scope: scope, Name: s, Text: text}
}

// numbered: n names of a scope that rise, with texts of their own.
func numbered(scope string, n int) []api.Name {
	l := make([]api.Name, n)
	for i := range l {
		two := string([]byte{byte('0' + i/10), byte('0' + i%10)})
		l[i] = name(scope, "x_"+two, two)
	}
	return l
}

// near: good names, rising, that differ in one byte, in the size of a letter, or in length alone.
func near() []string {
	return []string{"A", "AB", "TAX", "Tax", "a", "aB", "ab", "ab0", "ab00", "ab1", "abC", "ab_", "abc", "abcdefghijklmno", "abcdefghijklmnop", "abd", "b", "t", "tAX", "taX", "tax", "tax0", "tax_", "taxa", "z"}
}

// some: a list that rises, of book and sheets, with names that are alike.
func some() []api.Name {
	return []api.Name{name("", "rate", "5%"), name("", "tax", "1/5"), name("Feb", "tax", "1/3"), name("Jan", "base", "A1"), name("Jan", "tax", "1/4"), name("jan", "Tax", "2")}
}

// goodTexts: formulas, the longest one among them.
func goodTexts() []string {
	return []string{"1", "1/5", " 1 ", "A1", "$A$1:B2", "Jan!A1", "[b]Jan!A1", "tax", "[b]tax", "SUM(A1:A4)", "sum()", `"a""b"`, `""`, "TRUE", "false", "#REF!", "-2%", "(1)", strings.Repeat(" ", 254) + "1", `"` + strings.Repeat("x", 253) + `"`, `"` + strings.Repeat("é", 126) + `"`, "F(" + strings.Repeat("1,", 15) + "1)", strings.Repeat("-", 23) + "1"}
}

// longTexts: of more than MaxText bytes, formulas but for their length among them.
func longTexts() []string {
	return []string{strings.Repeat(" ", 255) + "1", "1" + strings.Repeat(" ", 255), `"` + strings.Repeat("x", 254) + `"`, `"` + strings.Repeat("é", 127) + `"`, strings.Repeat("x", 256), strings.Repeat("x", 257), strings.Repeat("\xff", 256), strings.Repeat("(", 512), strings.Repeat("1+", 1<<10) + "1"}
}

// noTexts: of at most MaxText bytes, and no formulas.
func noTexts() []string {
	return []string{"", " ", "\t", "=", "=1", "1+", "+1", "1 2", "()", "(1", "1)", "SUM(A1,)", "A65", "A100", "A1:", "A1:Jan!B2", "Jan!tax", "[b]A1", "[b]", "!", "\"", "'1", "#", "#REF", "1..2", "a.b", "é", "\xff", "\x00", "1\n", strings.Repeat("x", 17), strings.Repeat("x", 255), strings.Repeat("(", 255), strings.Repeat(" ", 255), "F(" + strings.Repeat("1,", 16) + "1)", strings.Repeat("-", 24) + "1", "100000000"}
}

// noNames: what no name and no scope may be called. (A scope may be empty, too.)
func noNames() []string {
	return []string{" ", "_", "1", "$", "!", "A1", "a1", "Z64", "A65", "b99", "A100", "a0", "A123456789", "TRUE", "FALSE", "true", "False", "tRuE", "a b", " a", "a ", "a\n", "a\x00", "\x00", "_a", "1a", "a-b", "a.b", "a!", "$a", "[b]a", "é", "aé", "ſ", "falſe", "ａ", "\xff", "a\xff", "abcdefghijklmnopq", strings.Repeat("a", 256), strings.Repeat("a", 257)}
}

// The second way: names as a set that is put in order anew each time.

// key: what there is one of; good names have no blank.
func key(x api.Name) string {
	return x.Scope + " " + x.Name
}

// laid: the names of a set, by Scope and then Name.
func laid(set map[string]api.Name) []api.Name {
	var l []api.Name
	for _, x := range set {
		l = append(l, x)
	}
	slices.SortFunc(l, ordered)
	return l
}

// ordered: P11.1's order, by the bytes.
func ordered(a, b api.Name) int {
	if c := bytes.Compare([]byte(a.Scope), []byte(b.Scope)); c != 0 {
		return c
	}
	return bytes.Compare([]byte(a.Name), []byte(b.Name))
}

// setOf: l as a set.
func setOf(l []api.Name) map[string]api.Name {
	set := map[string]api.Name{}
	for _, x := range l {
		set[key(x)] = x
	}
	return set
}

// orders: all orders of l.
func orders(l []api.Name) [][]api.Name {
	if len(l) == 0 {
		return [][]api.Name{nil}
	}
	var all [][]api.Name
	for i, x := range l {
		for _, rest := range orders(slices.Concat(l[:i], l[i+1:])) {
			all = append(all, append([]api.Name{x}, rest...))
		}
	}
	return all
}

// anyName: a good name of few scopes and names, so that many are met again.
func anyName(r *rand.Rand) api.Name {
	scopes, l := []string{"", "", "Jan", "jan", "Ja", "Jan_", "tax"}, near()
	return name(scopes[r.Intn(len(scopes))], l[r.Intn(len(l))], allTexts[r.Intn(len(allTexts))])
}

// rising: a list that Check takes, of at most MaxNames names.
func rising(r *rand.Rand) []api.Name {
	set := map[string]api.Name{}
	for range r.Intn(api.MaxNames + 1) {
		x := anyName(r)
		set[key(x)] = x
	}
	return laid(set)
}

// wildName: a name, good or not.
func wildName(r *rand.Rand) api.Name {
	return name(wildNames[r.Intn(len(wildNames))], wildNames[r.Intn(len(wildNames))], wildTexts[r.Intn(len(wildTexts))])
}

// Made once, since very many are chosen of them.
var (
	wildNames = slices.Concat(near(), noNames(), []string{"", "", "Jan", "tax"})
	wildTexts = slices.Concat(goodTexts(), noTexts(), longTexts())
	allTexts  = goodTexts()
)

// wild: a list of any names, in any order, some of them twice.
func wild(r *rand.Rand) []api.Name {
	l := make([]api.Name, r.Intn(50))
	for i := range l {
		l[i] = wildName(r)
		if i > 0 && r.Intn(4) == 0 {
			l[i].Scope, l[i].Name = l[i-1].Scope, l[i-1].Name
		}
	}
	return l
}

// right: Check takes l.
func right(t *testing.T, l []api.Name) {
	t.Helper()
	same(t, names.Check(l), api.OK, "Check", l)
}
