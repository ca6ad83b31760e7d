package formula_test

import (
	"fmt"
	"math/rand"
	"slices"
	"strconv"
	"strings"
	"testing"

	"octavo/addr"
	"octavo/api"
	"octavo/formula"
	"octavo/value"
)

// same: has a call answered as it is to?
func same[T comparable](t *testing.T, got, want T, what string, args ...any) {
	if got != want {
		t.Helper() // here, since very many trees pass
		t.Fatalf("%s%#v: %#v, want %#v", what, args, got, want)
	}
}

// Nodes of each kind.

func num(n int) api.Node            { return val(api.Value{Kind: 1, N: n * 10000}) }
func str(s string) api.Node         { return val(api.Value{Kind: 2, S: s}) }
func truth(n int) api.Node          { return val(api.Value{Kind: 3, N: n}) }
func fault(n int) api.Node          { return val(api.Value{Kind: 4, N: n}) }
func val(v api.Value) api.Node      { return api.Node{Kind: 1, Value: v} }
func ref(r api.Ref) api.Node        { return api.Node{Kind: 2, Ref: r} }
func area(r, to api.Ref) tree       { return api.Node{Kind: 3, Ref: r, To: to} }
func name(s string) api.Node        { return api.Node{Kind: 4, S: s} }
func neg(n api.Node) api.Node       { return api.Node{Kind: 5, S: "-", Args: []api.Node{n}} }
func pct(n api.Node) api.Node       { return api.Node{Kind: 5, S: "%", Args: []api.Node{n}} }
func at(row, col int) api.Ref       { return api.Ref{Row: row, Col: col} }
func cell(row, col int) tree        { return ref(at(row, col)) }
func bin(s string, l ...tree) tree  { return api.Node{Kind: 6, S: s, Args: l} }
func call(s string, l ...tree) tree { return api.Node{Kind: 7, S: s, Args: l} }

type tree = api.Node

func nameOf(book, s string) api.Node {
	return api.Node{Kind: 4, S: s, Ref: api.Ref{Book: book}}
}

// of: a ref of a book and a sheet.
func of(book, sheet string, r api.Ref) api.Ref {
	r.Book, r.Sheet = book, sheet
	return r
}

// fixed: with $ ahead of the column, of the row.
func fixed(r api.Ref, col, row bool) api.Ref {
	r.FixCol, r.FixRow = col, row
	return r
}

// equal: are two trees alike, by all that they have?
func equal(a, b api.Node) bool {
	if a.Kind != b.Kind || a.S != b.S || a.Value != b.Value || a.Ref != b.Ref || a.To != b.To || len(a.Args) != len(b.Args) {
		return false
	}
	for i := range a.Args {
		if !equal(a.Args[i], b.Args[i]) {
			return false
		}
	}
	return true
}

// shown: a tree for one who reads it, with what it has.
func shown(n api.Node) string {
	s := strconv.Itoa(n.Kind)
	if n.S != "" {
		s += " " + strconv.Quote(n.S)
	}
	if n.Value != (api.Value{}) {
		s += fmt.Sprintf(" value %#v", n.Value)
	}
	if n.Ref != (api.Ref{}) {
		s += fmt.Sprintf(" ref %v", n.Ref)
	}
	if n.To != (api.Ref{}) {
		s += fmt.Sprintf(" to %v", n.To)
	}
	for _, a := range n.Args {
		s += " " + shown(a)
	}
	return "{" + s + "}"
}

// twin: a tree that shares nothing with n.
func twin(n api.Node) api.Node {
	var l []api.Node
	for _, a := range n.Args {
		l = append(l, twin(a))
	}
	n.Args = l
	return n
}

// parses: s is parsed to that tree.
func parses(t *testing.T, s string, want api.Node) {
	got, e := formula.Parse(s)
	if e != api.OK || !equal(got, want) {
		t.Helper()
		t.Fatalf("Parse(%q): %s, %d, want %s", s, shown(got), e, shown(want))
	}
}

// refuses: s is answered by an error, and nothing beside it.
func refuses(t *testing.T, s string, want api.Errno) {
	got, e := formula.Parse(s)
	if e != want || !equal(got, api.Node{}) {
		t.Helper()
		t.Fatalf("Parse(%q): %s, %d, want %d", s, shown(got), e, want)
	}
}

// prints: the tree is good, its text is want, and that is parsed to it.
func prints(t *testing.T, want string, n api.Node) {
	t.Helper()
	same(t, formula.Good(n), true, "Good", shown(n))
	same(t, formula.Print(n), want, "Print", shown(n))
	parses(t, want, n)
}

// bad: the tree is not good, and has no text, alone and in others.
func bad(t *testing.T, n api.Node) {
	t.Helper()
	for _, x := range []api.Node{n, neg(n), pct(n), bin("+", n, num(1)), bin("+", num(1), n), call("F", n), call("F", num(1), n, num(2)), call("F", call("G", neg(n)))} {
		same(t, formula.Good(x), false, "Good", shown(x))
		same(t, formula.Print(x), "", "Print", shown(x))
	}
}

// binaries: all operators between two, with how much they bind.
func binaries() []binary {
	return []binary{{"=", 1}, {"<>", 1}, {"<", 1}, {"<=", 1}, {">", 1}, {">=", 1}, {"&", 2}, {"+", 3}, {"-", 3}, {"*", 4}, {"/", 4}, {"^", 5}}
}

type binary struct {
	s     string
	binds int
}

func faults() []string {
	return []string{"#DIV/0!", "#VALUE!", "#REF!", "#NAME?", "#NUM!", "#N/A", "#CYCLE!", "#LINK!"}
}

// sizes: a text with its letters in all sizes.
func sizes(s string) []string {
	l := []string{""}
	for _, c := range s {
		var longer []string
		for _, begin := range l {
			longer = append(longer, begin+strings.ToUpper(string(c)), begin+strings.ToLower(string(c)))
		}
		l = longer
	}
	return l
}

// leaf: a good node without Args, and the text that it has.
type leaf struct {
	text string
	node api.Node
}

// leaves: of each kind that is one, near the ends of what may be.
func leaves() []leaf {
	l := []leaf{
		{"0", num(0)}, {"1", num(1)}, {"12.5", val(api.Value{Kind: 1, N: 125000})}, {"0.0001", val(api.Value{Kind: 1, N: 1})}, {"10000000", val(api.Value{Kind: 1, N: api.MaxNum})}, {"9999999.9999", val(api.Value{Kind: 1, N: api.MaxNum - 1})},
		{`""`, str("")}, {`"a"`, str("a")}, {`"a""b"`, str(`a"b`)}, {`""""`, str(`"`)}, {`"(1+"`, str("(1+")}, {`"é"`, str("é")}, {"\"\xff\x00\n\"", str("\xff\x00\n")}, {`" "`, str(" ")}, {`"` + strings.Repeat("x", 253) + `"`, str(strings.Repeat("x", 253))},
		{"TRUE", truth(1)}, {"FALSE", truth(0)},
		{"A1", cell(1, 1)}, {"Z64", cell(64, 26)}, {"$A1", ref(fixed(at(1, 1), true, false))}, {"A$1", ref(fixed(at(1, 1), false, true))}, {"$B$7", ref(fixed(at(7, 2), true, true))}, {"Jan!A1", ref(of("", "Jan", at(1, 1)))}, {"[Acme]Jan!$B$7", ref(of("Acme", "Jan", fixed(at(7, 2), true, true)))},
		{"A1:B2", area(at(1, 1), at(2, 2))}, {"B2:A1", area(at(2, 2), at(1, 1))}, {"A1:A1", area(at(1, 1), at(1, 1))}, {"$A1:B$2", area(fixed(at(1, 1), true, false), fixed(at(2, 2), false, true))}, {"Jan!A1:Z64", area(of("", "Jan", at(1, 1)), at(64, 26))}, {"[Acme]Jan!A1:$B$7", area(of("Acme", "Jan", at(1, 1)), fixed(at(7, 2), true, true))},
		{"tax", name("tax")}, {"A", name("A")}, {"TRUE1", name("TRUE1")}, {"a_1", name("a_1")}, {"abcdefghijklmnop", name("abcdefghijklmnop")}, {"[b]tax", nameOf("b", "tax")}, {"[Acme]Jan", nameOf("Acme", "Jan")},
		{"F()", call("F")}, {"SUM()", call("SUM")}, {"LOG10()", call("LOG10")}, {"TRUE()", call("TRUE")}, {"FALSE()", call("FALSE")}, {"ABCDEFGHIJKLMN_9()", call("ABCDEFGHIJKLMN_9")},
	}
	for i, s := range faults() {
		l = append(l, leaf{s, fault(i + 1)})
	}
	return l
}

// grown: a good tree of at most some depth.
func grown(r *rand.Rand, depth int, l []leaf) api.Node {
	if depth == 1 || r.Intn(5) == 0 {
		return twin(l[r.Intn(len(l))].node)
	}
	switch r.Intn(8) {
	case 0:
		return neg(grown(r, depth-1, l))
	case 1:
		return pct(grown(r, depth-1, l))
	case 2:
		n := call([]string{"SUM", "IF", "TRUE", "X_1"}[r.Intn(4)])
		for range r.Intn(4) {
			n.Args = append(n.Args, grown(r, depth-1, l))
		}
		return n
	}
	return bin(binaries()[r.Intn(12)].s, grown(r, depth-1, l), grown(r, depth-1, l))
}

// trees: many good ones, most of them small.
func trees(n int, seed int64) []api.Node {
	r := rand.New(rand.NewSource(seed))
	l := slices.DeleteFunc(leaves(), func(x leaf) bool { return len(x.text) > 20 })
	all := make([]api.Node, n)
	for i := range all {
		all[i] = grown(r, 1+r.Intn(6), l)
	}
	return all
}

// small: all trees of some depth, of a 1, -, % and operators between, one of each strength and two of one.
func small(depth int) []api.Node {
	all := []api.Node{num(1)}
	for range depth - 1 {
		next := []api.Node{num(1)}
		for _, a := range all {
			next = append(next, neg(a), pct(a))
			for _, b := range all {
				for _, op := range []string{"=", "&", "+", "-", "*", "^"} {
					next = append(next, bin(op, a, b))
				}
			}
		}
		all = next
	}
	return all
}

// short: all texts of some parts, up to a count of them.
func short(count int, parts ...string) []string {
	all, last := []string{""}, []string{""}
	for range count {
		var longer []string
		for _, s := range last {
			for _, c := range parts {
				longer = append(longer, s+c)
			}
		}
		all = append(all, longer...)
		last = longer
	}
	return all
}

// parts: what texts are made of, good ones and some that no token is.
func parts() []string {
	l := []string{"(", "(", ")", ")", ",", ",", ":", "-", "-", "%", "%", "+", "*", "/", "^", "&", "=", "<", ">", "<=", ">=", "<>", "F(", "sum(", "TRUE(", "[b]F(", "Jan!A1", "[b]Jan!A1", ":B2", " ", "\t", "!", "A65", "1.", "#", "\"", "\xff", "()"}
	for _, x := range leaves() {
		if len(x.text) < 20 {
			l = append(l, x.text)
		}
	}
	return l
}

// mixed: texts of a few parts one behind the other; few of them are formulas.
func mixed(n int, seed int64) []string {
	r := rand.New(rand.NewSource(seed))
	l, all := make([]string, n), parts()
	for i := range l {
		for range 1 + r.Intn(8) {
			l[i] += all[r.Intn(len(all))]
		}
	}
	return l
}

// typed: a text of a tree with blanks about its tokens and more brackets than it needs; all parts of operators are in brackets, so no strength of theirs counts.
func typed(r *rand.Rand, n api.Node) string {
	gap := func() string { return []string{"", "", "", " ", "\t", "  "}[r.Intn(6)] }
	part := func(a api.Node) string { return gap() + "(" + typed(r, a) + ")" + gap() }
	text := ""
	switch n.Kind {
	case 1:
		text = spelled(n.Value)
	case 2:
		text = addr.Print(n.Ref)
	case 3:
		text = addr.Print(n.Ref) + gap() + ":" + gap() + addr.Print(n.To)
	case 4:
		text = n.S
		if n.Ref.Book != "" {
			text = "[" + n.Ref.Book + "]" + n.S
		}
	case 5:
		text = "-" + part(n.Args[0])
		if n.S == "%" {
			text = part(n.Args[0]) + "%"
		}
	case 6:
		text = part(n.Args[0]) + n.S + part(n.Args[1])
	case 7:
		var l []string
		for _, a := range n.Args {
			l = append(l, gap()+typed(r, a)+gap())
		}
		text = []string{n.S, strings.ToLower(n.S)}[r.Intn(2)] + gap() + "(" + gap() + strings.Join(l, ",") + ")"
	}
	if r.Intn(8) == 0 {
		text = "(" + gap() + text + gap() + ")"
	}
	return gap() + text + gap()
}

// spelled: a value as a formula has it.
func spelled(v api.Value) string {
	if v.Kind == 2 {
		return `"` + strings.ReplaceAll(v.S, `"`, `""`) + `"`
	}
	return value.Text(v)
}
