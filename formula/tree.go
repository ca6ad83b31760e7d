package formula

import (
	"iter"
	"slices"

	"octavo/api"
)

// Depth: how deep a tree is; a node alone is 1.
func Depth(n api.Node) int {
	deepest := 0
	for _, a := range n.Args {
		deepest = max(deepest, Depth(a))
	}
	return deepest + 1
}

// Size: how many nodes a tree has.
func Size(n api.Node) int {
	size := 0
	for range nodes(n) {
		size++
	}
	return size
}

// Each: all nodes as they are now, a node ahead of its Args. Each is told as a copy of its own: whoever changes one changes no other one, nor what is told the next time.
func Each(n api.Node) iter.Seq[api.Node] {
	kept := copied(n)
	return func(yield func(api.Node) bool) {
		for x := range nodes(kept) {
			if !yield(copied(x)) {
				return
			}
		}
	}
}

// Same: are two trees alike in all fields?
func Same(a, b api.Node) bool {
	return alike(a, b) && slices.EqualFunc(a.Args, b.Args, Same)
}

// alike: are two nodes alike in all fields but their Args?
func alike(a, b api.Node) bool {
	return a.Kind == b.Kind && a.S == b.S && a.Value == b.Value && a.Ref == b.Ref && a.To == b.To
}

// nodes: n's own, not copied.
func nodes(n api.Node) iter.Seq[api.Node] {
	return func(yield func(api.Node) bool) {
		tell(n, yield)
	}
}

// tell: n and what is below it, while yield asks for more; it tells whether that was so to the end.
func tell(n api.Node, yield func(api.Node) bool) bool {
	if !yield(n) {
		return false
	}
	for _, a := range n.Args {
		if !tell(a, yield) {
			return false
		}
	}
	return true
}

// copied: n, with lists of its own all the way down.
func copied(n api.Node) api.Node {
	n.Args = slices.Clone(n.Args)
	for i, a := range n.Args {
		n.Args[i] = copied(a)
	}
	return n
}
