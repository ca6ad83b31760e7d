package formula

import (
	"octavo/addr"
	"octavo/api"
	"octavo/value"
)

// Good: is it a tree that some text is parsed to?
func Good(n api.Node) bool {
	return goodWithin(n, api.MaxDepth)
}

// goodWithin: is it good, and at most so deep? The depth is counted on the way down, so that a tree that is far too deep is left early.
func goodWithin(n api.Node, depth int) bool {
	if depth == 0 || !bare(n) || !goodParts(n) {
		return false
	}
	for _, a := range n.Args {
		if !goodWithin(a, depth-1) {
			return false
		}
	}
	return true
}

// bare: is all zero that n's kind does not name?
func bare(n api.Node) bool {
	only := named(n)
	return alike(n, only) && len(n.Args) == len(only.Args)
}

// named: n's kind, and what that names.
func named(n api.Node) api.Node {
	switch n.Kind {
	case api.NodeValue:
		return api.Node{Kind: n.Kind, Value: n.Value}
	case api.NodeRef:
		return api.Node{Kind: n.Kind, Ref: n.Ref}
	case api.NodeArea:
		return api.Node{Kind: n.Kind, Ref: n.Ref, To: n.To}
	case api.NodeName:
		return api.Node{Kind: n.Kind, S: n.S, Ref: api.Ref{Book: n.Ref.Book}}
	}
	return api.Node{Kind: n.Kind, S: n.S, Args: n.Args}
}

// goodParts: may what n's kind names be so, whatever its Args are?
func goodParts(n api.Node) bool {
	switch n.Kind {
	case api.NodeValue:
		return goodConstant(n.Value)
	case api.NodeRef:
		return addr.Good(n.Ref)
	case api.NodeArea:
		return addr.PrintArea(n.Ref, n.To) != ""
	case api.NodeName:
		return addr.GoodName(n.S) && (n.Ref.Book == "" || addr.GoodName(n.Ref.Book))
	case api.NodeUnary:
		return len(n.Args) == 1 && (n.S == minus || n.S == percent)
	case api.NodeBin:
		return len(n.Args) == 2 && strength(n.S) != unbound
	case api.NodeCall:
		return len(n.Args) <= api.MaxArgs && goodFunction(n.S)
	}
	return false
}

// goodConstant: is v a value that stands in a formula? A number below 0 is a - of another one, and a blank has no text.
func goodConstant(v api.Value) bool {
	switch v.Kind {
	case api.Blank:
		return false
	case api.Num:
		return v.N >= 0 && value.Good(v)
	}
	return value.Good(v)
}

// goodFunction: is s a word in capital letters? TRUE and FALSE are words, though no good names.
func goodFunction(s string) bool {
	return s == value.Upper(s) && (addr.GoodName(s) || value.Typed(s).Kind == api.Bool)
}
