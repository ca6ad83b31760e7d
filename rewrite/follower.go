package rewrite

import (
	"slices"

	"octavo/addr"
	"octavo/api"
	"octavo/shift"
)

// follower turns the formulas of one home behind one change. Its fields that are functions tell where a ref, and the least and the greatest corner of an area, stand then; false, if nothing is left of them.
type follower struct {
	book, sheet string
	home        api.Place
	ref         func(r api.Ref) (api.Ref, bool)
	area        func(least, greatest api.Ref) (api.Ref, api.Ref, bool)
}

// follow: the follower of a change.
func follow(c Change, home api.Place) follower {
	f := follower{book: c.Book, sheet: c.Sheet, home: home}
	switch {
	case c.Drop:
		f.ref, f.area = goneRef, goneArea
	case c.Cols:
		f.ref, f.area = byLines(c.Shift, colOf)
	default:
		f.ref, f.area = byLines(c.Shift, rowOf)
	}
	return f
}

func goneRef(api.Ref) (api.Ref, bool) { return api.Ref{}, false }

func goneArea(api.Ref, api.Ref) (api.Ref, api.Ref, bool) { return api.Ref{}, api.Ref{}, false }

func rowOf(r *api.Ref) *int { return &r.Row }

func colOf(r *api.Ref) *int { return &r.Col }

// byLines: where refs and areas stand behind a shift of the lines that line tells of.
func byLines(s shift.Shift, line func(*api.Ref) *int) (func(api.Ref) (api.Ref, bool), func(api.Ref, api.Ref) (api.Ref, api.Ref, bool)) {
	ref := func(r api.Ref) (api.Ref, bool) {
		to, ok := shift.Pos(s, *line(&r))
		*line(&r) = to
		return r, ok
	}
	area := func(least, greatest api.Ref) (api.Ref, api.Ref, bool) {
		lo, hi, ok := shift.Span(s, *line(&least), *line(&greatest))
		*line(&least), *line(&greatest) = lo, hi
		return least, greatest, ok
	}
	return ref, area
}

// names: is n a ref or an area of the sheet?
func (f follower) names(n api.Node) bool {
	if n.Kind != api.NodeRef && n.Kind != api.NodeArea {
		return false
	}
	p := addr.At(n.Ref, f.home)
	return p.Book == f.book && p.Sheet == f.sheet
}

// within: is n, or a node below it, a ref or an area of the sheet?
func (f follower) within(n api.Node) bool {
	return f.names(n) || slices.ContainsFunc(n.Args, f.within)
}

// node: n behind the change, with lists of its own all the way down; true, if anything is another one.
func (f follower) node(n api.Node) (api.Node, bool) {
	switch {
	case !f.names(n):
		return f.parts(n)
	case n.Kind == api.NodeRef:
		return f.movedRef(n.Ref)
	}
	return f.movedArea(n.Ref, n.To)
}

// parts: n as it is, with all that it has, but for its Args.
func (f follower) parts(n api.Node) (api.Node, bool) {
	other := false
	n.Args = slices.Clone(n.Args)
	for i, a := range n.Args {
		moved, is := f.node(a)
		n.Args[i], other = moved, other || is
	}
	return n, other
}

// movedRef: a ref of the sheet, made anew: what else its node has is neither kept nor looked at.
func (f follower) movedRef(r api.Ref) (api.Node, bool) {
	moved, left := f.ref(r)
	if !left {
		return noRef(), true
	}
	return api.Node{Kind: api.NodeRef, Ref: moved}, moved != r
}

// movedArea: likewise an area.
func (f follower) movedArea(r, to api.Ref) (api.Node, bool) {
	least, greatest, left := f.area(corners(r, to))
	if !left {
		return noRef(), true
	}
	return api.Node{Kind: api.NodeArea, Ref: least, To: greatest}, least != r || greatest != to
}

func noRef() api.Node {
	return api.Node{Kind: api.NodeValue, Value: api.Value{Kind: api.Bad, N: api.BadRef}}
}

// corners: an area's corner of the least row and column, under r's names, and that of the greatest ones. Rows and columns are turned each with its fixing. Two alike are not turned: each keeps its own fixing, so that an area of one line comes back from a change as it was.
func corners(r, to api.Ref) (api.Ref, api.Ref) {
	if to.Row < r.Row {
		r.Row, to.Row = to.Row, r.Row
		r.FixRow, to.FixRow = to.FixRow, r.FixRow
	}
	if to.Col < r.Col {
		r.Col, to.Col = to.Col, r.Col
		r.FixCol, to.FixCol = to.FixCol, r.FixCol
	}
	return r, to
}
