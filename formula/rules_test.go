package formula_test

import (
	"fmt"
	"math"
	"slices"
	"strings"
	"testing"

	"octavo/api"
	"octavo/formula"
)

// strangers: trees that no text is parsed to, and some that are near to them.
func strangers() []api.Node {
	full := api.Ref{Book: "b", Sheet: "s", Row: 3, Col: 4, FixRow: true, FixCol: true}
	var l []api.Node
	for _, kind := range []int{math.MinInt, -1, 0, 1, 2, 3, 4, 5, 6, 7, 8, 100, math.MaxInt} {
		for _, s := range []string{"", "x", "-", "%", "+", "F", "TRUE", "A1", " ", "\xff", strings.Repeat("x", 300)} {
			for _, n := range []int{math.MinInt, -1, 0, 1, 9, math.MaxInt} {
				for count := range 4 {
					x := api.Node{Kind: kind, S: s, Value: api.Value{Kind: n, N: n, S: s}, Ref: api.Ref{Row: n, Col: n, Book: s}, Args: make([]api.Node, count)}
					l = append(l, x, api.Node{Kind: kind, S: s, Args: x.Args}, api.Node{Kind: kind, Value: api.Value{Kind: count, N: n}}, api.Node{Kind: kind, Ref: full, To: x.Ref}, api.Node{Kind: kind, Args: []api.Node{x, num(1)}})
				}
			}
		}
	}
	return l
}

// all: what every call answers, told to see.
func all(see func(what, answer string)) {
	l := append(mixed(20000, 13), short(4, "1", "-", "%", "(", ")", ",", "F", "A1", ":")...)
	for _, c := range []string{"(", ")", "-", "%", ",", ":", "F(", "1+", "((1)", "-1%", "\"", "\xff", "[b]", "A1:", "=", "<", "F(F,", "!"} {
		l = append(l, strings.Repeat(c, 255/len(c)), strings.Repeat(c, 300), strings.Repeat(c, 30)+"1")
	}
	l = append(l, strings.Repeat("1", 1<<20), strings.Repeat("(", 1<<20))
	for i, s := range l {
		n, e := formula.Parse(s)
		see(fmt.Sprint("texts ", i), fmt.Sprintf("%s %d %q", shown(n), e, formula.Print(n)))
	}
	odd := append(strangers(), trees(3000, 14)...)
	for i, n := range odd {
		other := odd[i*31%len(odd)]
		see(fmt.Sprint("trees ", i), fmt.Sprint(formula.Good(n), formula.Print(n), formula.Depth(n), formula.Size(n), formula.Same(n, other), formula.Same(n, n), shown(api.Node{Args: listed(n)})))
	}
}

// R1, R4: nothing panics, and the same arguments are answered the same.

func TestCallsAnswerTheSameAgain(t *testing.T) {
	was := map[string]string{}
	all(func(what, answer string) { was[what] = answer })
	all(func(what, answer string) {
		if was[what] != answer {
			t.Fatalf("%.100s: %.100s, then %.100s", what, was[what], answer)
		}
	})
	if len(was) < 30000 {
		t.Fatalf("only %d calls", len(was))
	}
}

// R2: beside an error there is no tree, not even of what stood ahead of the wrong place.

func TestBesideAnErrorIsNothing(t *testing.T) {
	refused := 0
	for _, s := range append(mixed(50000, 15), "1+2 3", "F(1,2", "SUM(1,,2)", "(1+2", strings.Repeat("1+", 200)) {
		if n, e := formula.Parse(s); e != api.OK {
			if !equal(n, api.Node{}) {
				t.Fatalf("Parse(%q): %s, %d", s, shown(n), e)
			}
			refused++
		}
	}
	if refused < 10000 {
		t.Fatalf("only %d were refused", refused)
	}
}

// roomy: n with lists that have room behind their ends, which is filled.
func roomy(n api.Node) api.Node {
	l := make([]api.Node, len(n.Args)+2)
	for i, a := range n.Args {
		l[i] = roomy(a)
	}
	l[len(n.Args)] = name("behind")
	n.Args = l[:len(n.Args)]
	return n
}

// kept: is n as want, and all that lies behind its lists' ends as roomy filled it?
func kept(n, want api.Node) bool {
	behind := n.Args[:cap(n.Args)][len(n.Args):]
	if !equal(n, want) || len(behind) != 2 || !equal(behind[0], name("behind")) || !equal(behind[1], api.Node{}) {
		return false
	}
	for i := range n.Args {
		if !kept(n.Args[i], want.Args[i]) {
			return false
		}
	}
	return true
}

// scribble: all lists of n are written over, with their spare room.
func scribble(n api.Node) {
	l := n.Args[:cap(n.Args)]
	for i := range l {
		scribble(l[i])
		l[i] = api.Node{Kind: 99, S: "changed"}
	}
}

// R3: what is handed in is not changed, nor what lies behind its end.

func TestCallsChangeNothing(t *testing.T) {
	for _, want := range trees(3000, 16) {
		n, other := roomy(want), roomy(neg(want))
		formula.Print(n)
		formula.Good(n)
		formula.Depth(n)
		formula.Size(n)
		formula.Same(n, other)
		formula.Same(n, roomy(want))
		for x := range formula.Each(n) {
			scribble(x)
		}
		if !kept(n, want) || !kept(other, neg(want)) {
			t.Fatalf("%s has become %s, or what is behind its lists", shown(want), shown(n))
		}
	}
}

// R3: an answer is new memory, with its spare room; no two lists of one share any.

func TestParseAnswersNewMemory(t *testing.T) {
	for _, want := range trees(2000, 17) {
		s := formula.Print(want)
		if len(s) > api.MaxText {
			continue
		}
		one, _ := formula.Parse(s)
		two, _ := formula.Parse(s)
		scribble(two)
		parses(t, s, want)
		if !equal(one, want) {
			t.Fatalf("Parse(%q) hangs on what was done with another answer", s)
		}
		// Each list is written over in turn: those of other nodes stay.
		for i := range one.Args {
			scribble(one.Args[i])
			for j := i + 1; j < len(one.Args); j++ {
				if !equal(one.Args[j], want.Args[j]) {
					t.Fatalf("Parse(%q): two lists share memory", s)
				}
			}
		}
	}
}

// R3: what Each tells is as it was when Each was asked, whatever is done with the tree or with what was told.

func TestEachTellsWhatWas(t *testing.T) {
	for _, n := range trees(2000, 18) {
		want := counted(twin(n))
		it := formula.Each(n)
		scribble(n)
		for range 2 {
			i := 0
			for x := range it {
				if !equal(x, want[i]) {
					t.Fatalf("told %s, want %s", shown(x), shown(want[i]))
				}
				scribble(x)
				i++
			}
			same(t, i, len(want), "how many were told")
		}
	}
}

func TestEachTellsNewMemory(t *testing.T) {
	for _, n := range trees(500, 19) {
		want := counted(n)
		got := listed(n)
		for i := range got {
			scribble(got[i])
			if !slices.EqualFunc(got[i+1:], want[i+1:], equal) {
				t.Fatalf("of %s: what is told shares memory", shown(n))
			}
		}
		got = listed(n)
		for i := len(got) - 1; i >= 0; i-- {
			scribble(got[i])
			if !slices.EqualFunc(got[:i], want[:i], equal) {
				t.Fatalf("of %s: what is told shares memory", shown(n))
			}
		}
	}
}

// TestEachTellsOfOneChange: at each place of a tree, behind the asking and between two that are told.
func TestEachTellsOfOneChange(t *testing.T) {
	n := call("F", neg(num(1)), bin("+", num(2), num(3)))
	want := counted(twin(n))
	it := formula.Each(n)
	for range it {
		n.Args[1].Args[1] = num(9)
		n.Args[0] = num(8)
		break
	}
	if got := slices.Collect(it); !slices.EqualFunc(got, want, equal) {
		t.Fatalf("told %s", shown(api.Node{Args: got}))
	}
}

// R7: what a kind does not name is zero.

func TestParseLeavesTheRestZero(t *testing.T) {
	seen := map[int]int{}
	for _, s := range mixed(200000, 20) {
		n, e := formula.Parse(s)
		if e != api.OK {
			continue
		}
		for _, x := range counted(n) {
			named := api.Node{Kind: x.Kind}
			switch x.Kind {
			case 1:
				named.Value = x.Value
			case 2:
				named.Ref = x.Ref
			case 3:
				named.Ref, named.To = x.Ref, x.To
			case 4:
				named.S, named.Ref.Book = x.S, x.Ref.Book
			case 5, 6, 7:
				named.S, named.Args = x.S, x.Args
			}
			if !equal(x, named) {
				t.Fatalf("Parse(%q) has %s", s, shown(x))
			}
			seen[x.Kind]++
		}
	}
	for kind := 1; kind <= 7; kind++ {
		if seen[kind] < 500 {
			t.Fatalf("only %d nodes of kind %d", seen[kind], kind)
		}
	}
	same(t, len(seen), 7, "kinds")
}
