package book

import (
	"cmp"
	"slices"

	"octavo/api"
	"octavo/names"
)

// Diff: the changes that make b of a; false, if their sheets are not called the same, in the same order.
func Diff(a, b api.Book) ([]api.Op, bool) {
	if !slices.EqualFunc(a.Sheets, b.Sheets, func(x, y api.Sheet) bool { return x.Name == y.Name }) {
		return nil, false
	}
	var l []api.Op
	for i, s := range a.Sheets {
		put := func(x api.Cell) api.Op {
			return api.Op{Kind: api.OpSet, Sheet: s.Name, Row: x.Row, Col: x.Col, Text: x.Text}
		}
		take := func(x api.Cell) api.Op { return put(api.Cell{Row: x.Row, Col: x.Col}) }
		l = append(l, differing(s.Cells, b.Sheets[i].Cells, cmpCell, put, take)...)
	}
	l = append(l, differing(a.Names, b.Names, names.Cmp, nameOp, unnameOp)...)
	return append(l, differing(a.Links, b.Links, CmpLink, linkOp, unlinkOp)...), true
}

// differing: what makes the list b of the list a, in order: put of each item that b has and a has not, or has otherwise, and take of each for which b has none.
func differing[T comparable](a, b []T, order func(x, y T) int, put, take func(T) api.Op) []api.Op {
	a, b = rising(a, order), rising(b, order)
	var l []api.Op
	for len(a) > 0 || len(b) > 0 {
		switch c := heads(a, b, order); {
		case c < 0:
			l = append(l, take(a[0]))
			a = a[1:]
		case c > 0:
			l = append(l, put(b[0]))
			b = b[1:]
		default:
			if a[0] != b[0] {
				l = append(l, put(b[0]))
			}
			a, b = a[1:], b[1:]
		}
	}
	return l
}

// heads: which of two lists has the item that comes next. A list that has come to its end stands behind.
func heads[T any](a, b []T, order func(x, y T) int) int {
	switch {
	case len(b) == 0:
		return -1
	case len(a) == 0:
		return 1
	}
	return order(a[0], b[0])
}

// rising: l in order, each place once. The books that Diff is asked of need not be right.
func rising[T any](l []T, order func(x, y T) int) []T {
	l = slices.SortedStableFunc(slices.Values(l), order)
	return slices.CompactFunc(l, func(x, y T) bool { return order(x, y) == 0 })
}

func cmpCell(x, y api.Cell) int {
	return cmp.Or(cmp.Compare(x.Row, y.Row), cmp.Compare(x.Col, y.Col))
}

func nameOp(x api.Name) api.Op {
	return api.Op{Kind: api.OpName, Name: x}
}

func unnameOp(x api.Name) api.Op {
	return nameOp(api.Name{Scope: x.Scope, Name: x.Name})
}

func linkOp(x api.Link) api.Op {
	return api.Op{Kind: api.OpLink, Link: x}
}

// unlinkOp: its link has no value, since only the cell is named.
func unlinkOp(x api.Link) api.Op {
	x.Value = api.Value{}
	return api.Op{Kind: api.OpUnlink, Link: x}
}
