package rewrite

import (
	"slices"

	"octavo/addr"
	"octavo/api"
	"octavo/shift"
)

// follower turns the formulas of one home behind one change. Its fields that are functions tell where a ref, and the least and the greatest corner of an area, stand then; false, if nothing is left of them.
type follower struct {
	book, sheet string
	home        api.Place
	ref         func(r api.Ref) (api.Ref, bool)
	area        func(least, greatest api.Ref) (api.Ref, api.Ref, bool)
}

// follow: the follower of a change.
func follow(c Change, home api.Place) follower {
	f := follower{book: c.Book, sheet: c.Sheet, home: home}
	switch {
	case c.Drop:
		f.ref, f.area = goneRef, goneArea
	case c.Cols:
		f.ref, f.area = byLines(c.Shift, colOf)
	default:
		f.ref, f.area = byLines(c.Shift, rowOf)
	}
	return f
}

func goneRef(api.Ref) (api.Ref, bool) { return api.Ref{}, false }

func goneArea(api.Ref, api.Ref) (api.Ref, api.Ref, bool) { return api.Ref{}, api.Ref{}, false }

func rowOf(r *api.Ref) *int { return &r.Row }

func colOf(r *api.Ref) *int { return &r.Col }

// byLines: where refs and areas stand behind a shift of the lines that line tells of.
func byLines(s shift.Shift, line func(*api.Ref) *int) (func(api.Ref) (api.Ref, bool), func(api.Ref, api.Ref) (api.Ref, api.Ref, bool)) {
	ref := func(r api.Ref) (api.Ref, bool) {
		to, ok := shift.Pos(s, *line(&r))
		*line(&r) = to
		return r, ok
	}
	area := func(least, greatest api.Ref) (api.Ref, api.Ref, bool) {
		lo, hi, ok := shift.Span(s, *line(&least), *line(&greatest))
		*line(&least), *line(&greatest) = lo, hi
		return least, greatest, ok
	}
	return ref, area
}

// names: is n a ref or an area of the sheet?
func (f follower) names(n api.Node) bool {
	if n.Kind != api.NodeRef && n.Kind != api.NodeArea {
		return false
	}
	p := addr.At(n.Ref, f.home)
	return p.Book == f.book && p.Sheet == f.sheet
}

// within: is n, or a node below it, a ref or an area of the sheet?
func (f follower) within(n api.Node) bool {
	return f.names(n) || slices.ContainsFunc(n.Args, f.within)
}

// node: n behind the change, with lists of its own all the way down.
func (f follower) node(n api.Node) api.Node {
	if f.names(n) {
		left := false
		if n.Kind == api.NodeRef {
			n.Ref, left = f.ref(n.Ref)
		} else {
			n.Ref, n.To, left = f.area(corners(n.Ref, n.To))
		}
		if !left {
			return api.Node{Kind: api.NodeValue, Value: api.Value{Kind: api.Bad, N: api.BadRef}}
		}
	}
	n.Args = slices.Clone(n.Args)
	for i, a := range n.Args {
		n.Args[i] = f.node(a)
	}
	return n
}

// corners: an area's corner of the least row and column, under r's names, and that of the greatest ones; each has the fixings that stood with its row and its column (of two alike r's).
func corners(r, to api.Ref) (api.Ref, api.Ref) {
	least, greatest := r, to
	least.Row, least.Col, greatest.Row, greatest.Col = addr.Box(r, to)
	for _, c := range []*api.Ref{&least, &greatest} {
		c.FixRow, c.FixCol = to.FixRow, to.FixCol
		if c.Row == r.Row {
			c.FixRow = r.FixRow
		}
		if c.Col == r.Col {
			c.FixCol = r.FixCol
		}
	}
	return least, greatest
}
