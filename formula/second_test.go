package formula_test

import (
	"slices"
	"strings"

	"octavo/addr"
	"octavo/api"
	"octavo/token"
)

// The second way: a formula is split where it is held together least, instead of being put together from the strongest on; and brackets are found by trying.

// split: P10.1.
func split(s string) (api.Node, api.Errno) {
	l, e := token.Lex(s)
	if e != 0 {
		return api.Node{}, e
	}
	n, ok := splitTokens(l)
	if !ok || deep(n) > 24 {
		return api.Node{}, 10
	}
	return n, 0
}

func deep(n api.Node) int {
	l := []int{0}
	for _, a := range n.Args {
		l = append(l, deep(a))
	}
	return slices.Max(l) + 1
}

func splitTokens(l []token.Token) (api.Node, bool) {
	if !balanced(l) {
		return api.Node{}, false
	}
	if at := weakest(l); at >= 0 {
		a, okA := splitTokens(l[:at])
		b, okB := splitTokens(l[at+1:])
		return bin(l[at].S, a, b), okA && okB
	}
	switch n := len(l); {
	case n == 0:
		return api.Node{}, false
	case isOp(l[0], "-"):
		a, ok := splitTokens(l[1:])
		return neg(a), ok
	case isOp(l[n-1], "%"):
		a, ok := splitTokens(l[:n-1])
		return pct(a), ok
	case n > 1 && isOp(l[0], "(") && closes(l, 0) == n-1:
		return splitTokens(l[1 : n-1])
	case n > 2 && l[0].Kind == 4 && l[0].Ref.Book == "" && isOp(l[1], "(") && closes(l, 1) == n-1:
		return splitCall(l[0].S, l[2:n-1])
	case n == 3 && l[0].Kind == 3 && isOp(l[1], ":") && l[2].Kind == 3 && l[2].Ref.Sheet == "" && l[2].Ref.Book == "":
		return area(l[0].Ref, l[2].Ref), true
	case n == 1:
		return lone(l[0])
	}
	return api.Node{}, false
}

// splitCall: a call of what stands between its brackets.
func splitCall(s string, l []token.Token) (api.Node, bool) {
	n, from, level := call(strings.ToUpper(s)), 0, 0
	if len(l) == 0 {
		return n, true
	}
	for i := range len(l) + 1 {
		if i == len(l) || level == 0 && isOp(l[i], ",") {
			a, ok := splitTokens(l[from:i])
			if !ok {
				return api.Node{}, false
			}
			n.Args, from = append(n.Args, a), i+1
			continue
		}
		level += opens(l[i])
	}
	return n, len(n.Args) <= 16
}

// lone: the node of one token.
func lone(x token.Token) (api.Node, bool) {
	switch {
	case x.Kind == 1:
		return val(api.Value{Kind: 1, N: x.N}), true
	case x.Kind == 2:
		return str(x.S), true
	case x.Kind == 6:
		return fault(x.N), true
	case x.Kind == 3:
		return ref(x.Ref), true
	case x.Kind == 4 && x.Ref.Book == "" && strings.ToUpper(x.S) == "TRUE":
		return truth(1), true
	case x.Kind == 4 && x.Ref.Book == "" && strings.ToUpper(x.S) == "FALSE":
		return truth(0), true
	case x.Kind == 4:
		return nameOf(x.Ref.Book, x.S), true
	}
	return api.Node{}, false
}

// weakest: the place of the last operator between two, of those outside of brackets that bind least; -1, if there is none.
func weakest(l []token.Token) int {
	at, least, level := -1, 6, 0
	for i, x := range l {
		level += opens(x)
		if level != 0 || x.Kind != 5 || i == 0 {
			continue
		}
		// Behind an operator a - is one ahead.
		if before := l[i-1]; before.Kind == 5 && before.S != ")" && before.S != "%" {
			continue
		}
		if b := slices.IndexFunc(binaries(), func(b binary) bool { return b.s == x.S }); b >= 0 && binaries()[b].binds <= least {
			at, least = i, binaries()[b].binds
		}
	}
	return at
}

// closes: the place of the bracket that closes the one at a place; -1, if there is none.
func closes(l []token.Token, at int) int {
	level := 0
	for i := at; i < len(l); i++ {
		level += opens(l[i])
		if level == 0 {
			return i
		}
	}
	return -1
}

// balanced: is each bracket closed that is opened, and no other one?
func balanced(l []token.Token) bool {
	level := 0
	for _, x := range l {
		level += opens(x)
		if level < 0 {
			return false
		}
	}
	return level == 0
}

func opens(x token.Token) int {
	switch {
	case isOp(x, "("):
		return 1
	case isOp(x, ")"):
		return -1
	}
	return 0
}

func isOp(x token.Token, s string) bool {
	return x.Kind == 5 && x.S == s
}

// shortest: a good tree's text: of all ways to put brackets about the parts of an operator the shortest that is split to the tree.
func shortest(n api.Node) string {
	var l []string
	for _, a := range n.Args {
		l = append(l, shortest(a))
	}
	switch n.Kind {
	case 1:
		return spelled(n.Value)
	case 2:
		return addr.Print(n.Ref)
	case 3:
		return addr.PrintArea(n.Ref, n.To)
	case 4:
		if n.Ref.Book != "" {
			return "[" + n.Ref.Book + "]" + n.S
		}
		return n.S
	case 7:
		return n.S + "(" + strings.Join(l, ",") + ")"
	}
	best := ""
	for _, s := range bracketed(n, l) {
		got, e := split(s)
		if e == 0 && equal(got, n) && (best == "" || len(s) < len(best)) {
			best = s
		}
	}
	return best
}

// bracketed: the texts of an operator's node, of the texts of its parts with and without brackets.
func bracketed(n api.Node, l []string) []string {
	about := func(s string) []string { return []string{s, "(" + s + ")"} }
	var all []string
	for _, a := range about(l[0]) {
		switch {
		case n.Kind == 6:
			for _, b := range about(l[1]) {
				all = append(all, a+n.S+b)
			}
		case n.S == "-":
			all = append(all, "-"+a)
		default:
			all = append(all, a+"%")
		}
	}
	return all
}
