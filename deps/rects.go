package deps

import (
	"octavo/addr"
	"octavo/api"
	"octavo/formula"
)

// deepest: how deep names may stand in names; one that the formula itself names is the first.
const deepest = 8

// Rects: the cells that n reads, if it stands at home.
func Rects(l []api.Open, home api.Place, n api.Node) []api.Rect {
	r := reader{open: l, told: map[api.Rect]struct{}{}, been: map[visit]struct{}{}}
	r.read(n, home, 1)
	return r.rects
}

// reader gathers what a formula reads, and what the names in it do.
type reader struct {
	open  []api.Open
	rects []api.Rect
	told  map[api.Rect]struct{}
	been  map[visit]struct{}
}

// visit is a name in a formula that stands at home, so deep in names. What it reads has all been told when it comes again. A name that comes again deeper is another visit: it may read less.
type visit struct {
	home       api.Place
	book, name string
	depth      int
}

// read: n and what is below it, in the order of formula's Each, which would copy all that is below each node. A name in it stands at that depth.
func (r *reader) read(n api.Node, home api.Place, depth int) {
	switch n.Kind {
	case api.NodeRef:
		r.tell(rectOf(n.Ref, n.Ref, home))
	case api.NodeArea:
		r.tell(rectOf(n.Ref, n.To, home))
	case api.NodeName:
		r.follow(n, home, depth)
	}
	for _, a := range n.Args {
		r.read(a, home, depth)
	}
}

// tell: a rect, if it is a new one.
func (r *reader) tell(x api.Rect) {
	if _, old := r.told[x]; old {
		return
	}
	r.told[x] = struct{}{}
	r.rects = append(r.rects, x)
}

// follow: what a name's text reads, if the name means something there.
func (r *reader) follow(n api.Node, home api.Place, depth int) {
	v := visit{home: home, book: n.Ref.Book, name: n.S, depth: depth}
	if _, been := r.been[v]; been || depth > deepest {
		return
	}
	r.been[v] = struct{}{}
	x, book, ok := Names(r.open, home, n)
	if !ok {
		return
	}
	if tree, e := formula.Parse(x.Text); e == api.OK {
		r.read(tree, homeOf(x, book, home), depth+1)
	}
}

// homeOf: where the text of a name of that book stands, if the name stands at home.
func homeOf(x api.Name, book string, home api.Place) api.Place {
	home.Book = book
	if x.Scope != "" {
		home.Sheet = x.Scope
	}
	return home
}

// rectOf: the cells from one ref to the other, whose book and sheet are the first one's.
func rectOf(from, to api.Ref, home api.Place) api.Rect {
	p := addr.At(from, home)
	r1, c1, r2, c2 := addr.Box(from, to)
	return api.Rect{Book: p.Book, Sheet: p.Sheet, R1: r1, C1: c1, R2: r2, C2: c2}
}
