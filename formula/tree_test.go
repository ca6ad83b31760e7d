package formula_test

import (
	"slices"
	"testing"

	"octavo/api"
	"octavo/formula"
)

// P10.3

// listed: what Each tells.
func listed(n api.Node) []api.Node {
	return slices.Collect(formula.Each(n))
}

// tells: Each tells just these.
func tells(t *testing.T, n api.Node, want ...api.Node) {
	t.Helper()
	if got := listed(n); !slices.EqualFunc(got, want, equal) {
		t.Fatalf("Each(%s): %d nodes, want %d: %s, want %s", shown(n), len(got), len(want), shown(api.Node{Args: got}), shown(api.Node{Args: want}))
	}
}

// measures: its depth and its size.
func measures(t *testing.T, n api.Node, depth, size int) {
	t.Helper()
	same(t, formula.Depth(n), depth, "Depth", shown(n))
	same(t, formula.Size(n), size, "Size", shown(n))
	same(t, len(listed(n)), size, "how many Each tells", shown(n))
}

// counted: all nodes of a tree in order, from a list of what is to be looked at.
func counted(n api.Node) []api.Node {
	left, all := []api.Node{n}, []api.Node(nil)
	for len(left) > 0 {
		n := left[0]
		all = append(all, n)
		left = append(slices.Clone(n.Args), left[1:]...)
	}
	return all
}

func TestTreesOfOneNode(t *testing.T) {
	for _, x := range leaves() {
		measures(t, x.node, 1, 1)
		tells(t, x.node, x.node)
	}
	// Whatever it is.
	for _, n := range []api.Node{{}, {Kind: -1}, {Kind: 99, S: "x"}, {Kind: 5, S: "-"}, {Kind: 6, S: "+"}, {Kind: 7, Args: []api.Node{}}} {
		measures(t, n, 1, 1)
		tells(t, n, n)
	}
}

func TestTreesOfMany(t *testing.T) {
	one, two, three := num(1), num(2), num(3)
	n := bin("*", bin("+", one, two), three)
	measures(t, n, 3, 5)
	tells(t, n, n, bin("+", one, two), one, two, three)
	n = bin("+", one, bin("*", two, three))
	measures(t, n, 3, 5)
	tells(t, n, n, one, bin("*", two, three), two, three)
	n = neg(pct(cell(1, 1)))
	measures(t, n, 3, 3)
	tells(t, n, n, pct(cell(1, 1)), cell(1, 1))
	n = call("F", neg(one), two, call("G", three, call("H")), area(at(1, 1), at(2, 2)))
	measures(t, n, 3, 8)
	tells(t, n, n, neg(one), one, two, call("G", three, call("H")), three, call("H"), area(at(1, 1), at(2, 2)))
	for count := range 40 {
		n, all := call("F"), []api.Node{{}}
		for i := range count {
			n.Args = append(n.Args, num(i))
			all = append(all, num(i))
		}
		all[0] = n
		measures(t, n, min(2, count+1), count+1)
		tells(t, n, all...)
		tells(t, neg(n), append([]api.Node{neg(n)}, all...)...)
	}
	for depth := 1; depth < 60; depth++ {
		for i, x := range tall(depth) {
			same(t, formula.Depth(x.node), depth, "Depth", i)
			same(t, formula.Size(x.node), len(counted(x.node)), "Size", i, depth)
		}
	}
}

// TestDepthIsOfTheDeepest: wherever it stands among the Args.
func TestDepthIsOfTheDeepest(t *testing.T) {
	for count := 1; count < 12; count++ {
		for at := range count {
			n := call("F")
			for i := range count {
				n.Args = append(n.Args, num(i))
			}
			n.Args[at] = neg(neg(bin("+", num(1), num(2))))
			measures(t, n, 5, count+5)
		}
	}
}

// TestTreesOfStrangers: Args are looked at, whatever the kind.
func TestTreesOfStrangers(t *testing.T) {
	for _, kind := range []int{-1, 0, 1, 2, 3, 4, 5, 6, 7, 8, 100} {
		n := api.Node{Kind: kind, S: "?", Args: []api.Node{{}, {Kind: kind, Args: []api.Node{num(1)}}, {}}}
		measures(t, n, 3, 5)
		tells(t, n, n, api.Node{}, n.Args[1], num(1), api.Node{})
	}
	wide := api.Node{Args: make([]api.Node, 5000)}
	measures(t, wide, 2, 5001)
}

func TestTreesOfAnyKind(t *testing.T) {
	for _, n := range append(trees(20000, 11), small(3)...) {
		want := counted(n)
		if got := listed(n); !slices.EqualFunc(got, want, equal) || formula.Size(n) != len(want) || formula.Depth(n) != deep(n) {
			t.Fatalf("of %s: depth %d, size %d, %d told, want %d, %d", shown(n), formula.Depth(n), formula.Size(n), len(got), deep(n), len(want))
		}
	}
}

// TestTreesOfGreatDepth: 2^16 parts nested in one another.
func TestTreesOfGreatDepth(t *testing.T) {
	chain := func(last api.Node) api.Node {
		for range 1<<16 - 1 {
			last = call("F", last)
		}
		return last
	}
	n := chain(num(1))
	same(t, formula.Depth(n), 1<<16, "Depth of a chain")
	same(t, formula.Size(n), 1<<16, "Size of a chain")
	same(t, formula.Same(n, chain(num(1))), true, "Same of chains")
	same(t, formula.Same(n, chain(num(2))), false, "Same of chains")
	told := 0
	for range formula.Each(n) {
		told++
		if told == 3 {
			break
		}
	}
	same(t, told, 3, "how many were told")
	n = num(1)
	for range 1000 {
		n = neg(n)
	}
	same(t, len(listed(n)), 1001, "how many Each tells")
}

// TestEachIsLeft: at any time, gone over again, and nested.
func TestEachIsLeft(t *testing.T) {
	n, e := formula.Parse("IF(A1>0,SUM(A1:B2,tax)*2,-3%)")
	same(t, e, api.OK, "Parse")
	all := counted(n)
	it := formula.Each(n)
	for stop := range len(all) + 1 {
		var got []api.Node
		for x := range it {
			if len(got) == stop {
				break
			}
			got = append(got, x)
		}
		if !slices.EqualFunc(got, all[:stop], equal) {
			t.Fatalf("the first %d: %s", stop, shown(api.Node{Args: got}))
		}
	}
	told := 0
	for x := range it {
		inner := 0
		for y := range it {
			if inner == told && !equal(x, y) {
				t.Fatalf("nested: %s, want %s", shown(y), shown(x))
			}
			inner++
		}
		same(t, inner, len(all), "how many are told within")
		told++
	}
	same(t, told, len(all), "how many are told")
	// Whoever has asked for no more is not told more.
	for stop := 1; stop <= len(all); stop++ {
		calls := 0
		it(func(api.Node) bool {
			calls++
			return calls < stop
		})
		same(t, calls, stop, "how many were told up to a false", stop)
	}
}

// changed: n with one thing changed, in each way that there is for a node alone.
func changed(n api.Node) []api.Node {
	change := func(f func(*api.Node)) api.Node {
		x := twin(n)
		f(&x)
		return x
	}
	l := []api.Node{
		change(func(x *api.Node) { x.Kind++ }),
		change(func(x *api.Node) { x.Kind = -x.Kind - 1 }),
		change(func(x *api.Node) { x.S += " " }),
		change(func(x *api.Node) { x.Value.Kind++ }),
		change(func(x *api.Node) { x.Value.N++ }),
		change(func(x *api.Node) { x.Value.S += "x" }),
		change(func(x *api.Node) { x.Args = append(x.Args, api.Node{}) }),
	}
	for _, r := range []func(*api.Node) *api.Ref{func(x *api.Node) *api.Ref { return &x.Ref }, func(x *api.Node) *api.Ref { return &x.To }} {
		l = append(l,
			change(func(x *api.Node) { r(x).Book += "b" }),
			change(func(x *api.Node) { r(x).Sheet += "s" }),
			change(func(x *api.Node) { r(x).Row++ }),
			change(func(x *api.Node) { r(x).Col-- }),
			change(func(x *api.Node) { r(x).FixRow = !r(x).FixRow }),
			change(func(x *api.Node) { r(x).FixCol = !r(x).FixCol }))
	}
	if n.S != "" {
		l = append(l, change(func(x *api.Node) { x.S = "" }))
	}
	if len(n.Args) > 0 {
		l = append(l, change(func(x *api.Node) { x.Args = nil }), change(func(x *api.Node) { x.Args = x.Args[1:] }), change(func(x *api.Node) { x.Args = x.Args[:len(x.Args)-1] }))
	}
	if len(n.Args) == 2 && !equal(n.Args[0], n.Args[1]) {
		l = append(l, change(func(x *api.Node) { slices.Reverse(x.Args) }))
	}
	return l
}

func TestSame(t *testing.T) {
	nodes := []api.Node{{}, {Kind: 99, S: "x"}, bin("+", num(1), num(2)), call("F", num(1), neg(cell(1, 1)), num(3)), call("F")}
	for _, x := range leaves() {
		nodes = append(nodes, x.node)
	}
	for _, n := range nodes {
		about := []func(api.Node) api.Node{
			func(x api.Node) api.Node { return x }, neg, pct,
			func(x api.Node) api.Node { return bin("+", num(1), x) },
			func(x api.Node) api.Node { return bin("+", x, num(1)) },
			func(x api.Node) api.Node { return call("F", num(1), neg(call("G", num(2), x, num(3))), num(4)) },
		}
		for _, put := range about {
			a := put(n)
			same(t, formula.Same(a, a), true, "Same", shown(a))
			same(t, formula.Same(a, twin(a)), true, "Same of a twin", shown(a))
			for _, other := range changed(n) {
				b := put(other)
				same(t, formula.Same(a, b), false, "Same", shown(a), shown(b))
				same(t, formula.Same(b, a), false, "Same", shown(b), shown(a))
			}
		}
	}
}

// TestSameOfEmptyLists: nil and empty ones are the same.
func TestSameOfEmptyLists(t *testing.T) {
	for _, n := range []api.Node{{}, num(1), call("F")} {
		empty := n
		empty.Args = []api.Node{}
		room := n
		room.Args = make([]api.Node, 3)[:0]
		for _, a := range []api.Node{n, empty, room} {
			for _, b := range []api.Node{n, empty, room} {
				same(t, formula.Same(a, b), true, "Same", shown(n))
				same(t, formula.Same(neg(a), neg(b)), true, "Same", shown(n))
			}
		}
	}
	a, b := call("F", num(1), num(2)), call("F", num(1), num(3))
	a.Args, b.Args = a.Args[:1], b.Args[:1]
	same(t, formula.Same(a, b), true, "Same, but for what lies behind the lists' ends")
}

func TestSameOfMany(t *testing.T) {
	all := append(trees(600, 12), small(2)...)
	alike := 0
	for _, a := range all {
		for _, b := range all {
			if formula.Same(a, b) != equal(a, b) {
				t.Fatalf("Same(%s, %s): %v", shown(a), shown(b), formula.Same(a, b))
			}
			if equal(a, b) {
				alike++
			}
		}
	}
	if alike < len(all) || alike > len(all)*len(all)/2 {
		t.Fatalf("%d of %d are alike", alike, len(all)*len(all))
	}
}
