package rewrite_test

import (
	"fmt"
	"math/rand"
	"testing"

	"octavo/api"
	"octavo/rewrite"
	"octavo/shift"
)

// wildTree: of anything, good or not.
func wildTree(r *rand.Rand, depth int) api.Node {
	n := anyTree(r, depth)
	numbers := []int{-1 << 63, -1, 0, 1, 2, 26, 27, 64, 65, 1000, 1001, 1<<63 - 1}
	any := func() int { return numbers[r.Intn(len(numbers))] }
	switch r.Intn(6) {
	case 0:
		n.Kind = r.Intn(10) - 1
	case 1:
		n.Ref = api.Ref{Book: n.Ref.Book, Sheet: n.Ref.Sheet, Row: any(), Col: any()}
	case 2:
		n.To = api.Ref{Sheet: "S", Row: any(), Col: any()}
	case 3:
		n.S = []string{"", "-", "\xff", "S"}[r.Intn(4)]
	}
	for range r.Intn(3) {
		if depth > 1 {
			n.Args = append(n.Args, wildTree(r, depth-1))
		}
	}
	return n
}

func wildChange(r *rand.Rand) rewrite.Change {
	c := anyChange(r)
	numbers := []int{-1 << 63, 1 - 1<<63, -1001, -1, 0, 1, 2, 64, 65, 1000, 1001, 1<<63 - 2, 1<<63 - 1}
	if r.Intn(2) == 0 {
		c.Shift = shift.Shift{At: numbers[r.Intn(len(numbers))], N: numbers[r.Intn(len(numbers))], Most: numbers[r.Intn(len(numbers))]}
	}
	return c
}

// all: what every call answers, told to see.
func all(see func(what, answer string)) {
	r := rand.New(rand.NewSource(5))
	for i := range 30000 {
		n, home, c := wildTree(r, 1+r.Intn(4)), anyHome(r), wildChange(r)
		got, other := rewrite.Node(n, home, c)
		s := make([]byte, r.Intn(9))
		for i := range s {
			s[i] = "=A3:B$+-(),S!b[]1 \xff\""[r.Intn(20)]
		}
		see(fmt.Sprint(i), fmt.Sprint(shown(got), other, rewrite.Names(n, home, c), asked(rewrite.Text("="+string(s), home, c)), asked(rewrite.Text(string(s), home, c))))
	}
}

// R1, R4: nothing panics, and the same arguments are answered the same.

func TestCallsAnswerTheSameAgain(t *testing.T) {
	was := map[string]string{}
	all(func(what, answer string) { was[what] = answer })
	all(func(what, answer string) {
		if was[what] != answer {
			t.Fatalf("%s: %s, then %s", what, was[what], answer)
		}
	})
}

// A tree's answer says another one just if it is, by what is looked at; and one that stays names the sheet or not.
func TestWildTreesSayWhatIsAnother(t *testing.T) {
	r := rand.New(rand.NewSource(6))
	for range 30000 {
		n, home, c := wildTree(r, 1+r.Intn(4)), anyHome(r), wildChange(r)
		got, other := rewrite.Node(n, home, c)
		same(t, other, !equal(bare(n, home, c), got), "Node", shown(n), home, c)
		if other {
			same(t, rewrite.Names(n, home, c), true, "Names of what is turned", shown(n), home, c)
		}
	}
}

// Wild trees behind good changes, as the second way tells.
func TestWildTreesByTheModel(t *testing.T) {
	r := rand.New(rand.NewSource(9))
	others, only := 0, 0
	for range 60000 {
		n, home, c := wildTree(r, 1+r.Intn(4)), anyHome(r), anyChange(r)
		m := modelOf(home, c)
		want := m.node(n)
		turns(t, n, home, c, want)
		if !equal(bare(n, home, c), want) {
			others++
		} else if !equal(n, want) {
			only++
		}
	}
	if others < 10000 || only < 1000 {
		t.Fatalf("only %d became other ones, and %d were made bare alone", others, only)
	}
}

// R1: trees that are far too deep, and wide ones.
func TestVeryDeepTrees(t *testing.T) {
	n, want := ref(at(3, 3)), ref(at(4, 3))
	for range 1 << 16 {
		n, want = neg(n), neg(want)
	}
	turns(t, n, inS, rows(3, 1), want)
	turns(t, n, inT, rows(3, 1), n)
	same(t, rewrite.Names(n, inS, drop()), true, "Names of a very deep tree")
	same(t, rewrite.Names(n, inT, drop()), false, "Names of a very deep tree")
	wide, left := call(), call()
	for range 1 << 16 {
		wide.Args, left.Args = append(wide.Args, ref(at(3, 3))), append(left.Args, gone())
	}
	turns(t, wide, inS, drop(), left)
}

// roomy: n, with room behind the end of each list, which is filled.
func roomy(n api.Node) api.Node {
	l := make([]api.Node, 0, len(n.Args)+3)
	for _, a := range n.Args {
		l = append(l, roomy(a))
	}
	n.Args = append(l, num(8), num(8), num(8))[:len(n.Args)]
	return n
}

// whole: n, with what lies behind the ends of its lists.
func whole(n api.Node) api.Node {
	var l []api.Node
	for _, a := range n.Args[:cap(n.Args)] {
		l = append(l, whole(a))
	}
	n.Args = l
	return n
}

// scribble: all lists of n are written over, with their spare room.
func scribble(n api.Node) {
	l := n.Args[:cap(n.Args)]
	for i := range l {
		scribble(l[i])
		l[i] = num(9)
	}
}

// R3: what is handed in is not changed, nor what lies behind its end; an answer is new memory, whether anything is another one or not.
func TestMemory(t *testing.T) {
	r := rand.New(rand.NewSource(7))
	turned, stayed := 0, 0
	for range 20000 {
		n, home, c := roomy(anyTree(r, 1+r.Intn(5))), anyHome(r), anyChange(r)
		was := whole(n)
		one, other := rewrite.Node(n, home, c)
		two, _ := rewrite.Node(n, home, c)
		want := twin(one)
		rewrite.Names(n, home, c)
		same(t, equal(whole(n), was), true, "Node changes nothing", shown(n), home, c)
		scribble(two)
		same(t, equal(whole(n), was), true, "Node, and its answer is changed", shown(n), home, c)
		same(t, equal(one, want), true, "Node, and another answer is changed", shown(n), home, c)
		scribble(n)
		same(t, equal(one, want), true, "Node, and what was handed in is changed", shown(want), home, c)
		if len(want.Args) > 0 && other {
			turned++
		} else if len(want.Args) > 0 {
			stayed++
		}
	}
	if turned < 1000 || stayed < 1000 {
		t.Fatalf("only %d turned, and %d stayed", turned, stayed)
	}
}

// R3: no two lists of one answer share memory, also where those of what was handed in do.
func TestListsOfAnAnswerShareNothing(t *testing.T) {
	shared := neg(ref(at(1, 1)))
	for _, c := range []rewrite.Change{rows(1, 1), rows(9, 1), drop()} {
		got, _ := rewrite.Node(call(shared, shared), inS, c)
		want := twin(got.Args[1])
		scribble(got.Args[0])
		same(t, equal(got.Args[1], want), true, "the second list, and the first one is changed", c)
	}
}

// R3: nil and empty lists are the same.
func TestEmptyLists(t *testing.T) {
	n := ref(at(1, 1))
	n.Args = []api.Node{}
	turns(t, n, inS, rows(9, 1), ref(at(1, 1)))
	turns(t, n, inS, rows(1, 1), ref(at(2, 1)))
	turns(t, call([]api.Node{}...), inS, drop(), call())
}

// R2: beside ErrText there is nothing.
func TestBesideAnErrorIsNothing(t *testing.T) {
	r := rand.New(rand.NewSource(8))
	seen := 0
	for range 20000 {
		s := filled([]string{"A9", "B9+A9", "F(A9:B9)", "A9-A1", "B9:A9"}[r.Intn(5)], 250+r.Intn(6))
		got := asked(rewrite.Text(s, inS, anyChange(r)))
		if got.e != api.OK {
			same(t, got, texts{"", false, api.ErrText}, "Text", s)
			seen++
		} else if len(got.text) > api.MaxText {
			t.Fatalf("Text %q: %q", s, got.text)
		}
	}
	if seen < 100 {
		t.Fatalf("only %d errors", seen)
	}
}
