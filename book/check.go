package book

import (
	"slices"

	"octavo/addr"
	"octavo/api"
	"octavo/names"
	"octavo/sheet"
	"octavo/value"
)

// Check: what is wrong with a book.
func Check(b api.Book) api.Errno {
	if e := sheet.Check(b); e != api.OK {
		return e
	}
	if e := names.Check(b.Names); e != api.OK {
		return e
	}
	switch {
	case slices.ContainsFunc(b.Names, func(x api.Name) bool { return !scoped(b, x) }):
		return api.ErrNone
	case len(b.Links) > api.MaxLinks || !rises(b.Links) || slices.ContainsFunc(b.Links, wrongLink):
		return api.ErrRange
	}
	return api.OK
}

// scoped: is a name's scope the book, or one of its sheets?
func scoped(b api.Book, x api.Name) bool {
	return x.Scope == "" || sheet.Index(b, x.Scope) >= 0
}

// rises: does each link stand behind the one ahead of it?
func rises(l []api.Link) bool {
	for i := 1; i < len(l); i++ {
		if CmpLink(l[i-1], l[i]) >= 0 {
			return false
		}
	}
	return true
}

func wrongLink(x api.Link) bool { return !wellNamed(x) || !wellValued(x) }

// wellNamed: may a link be of that book and sheet?
func wellNamed(x api.Link) bool {
	return addr.GoodName(x.Book) && addr.GoodName(x.Sheet)
}

// wellValued: is there such a cell, and such a value?
func wellValued(x api.Link) bool {
	return addr.Good(api.Ref{Row: x.Row, Col: x.Col}) && value.Good(x.Value)
}

// CmpLink: -1, 0 or 1, as a stands ahead of b, with it, or behind it.
func CmpLink(a, b api.Link) int {
	return addr.Cmp(placeOf(a), placeOf(b))
}

// FindLink: the cached value of a place.
func FindLink(b api.Book, p api.Place) (api.Value, bool) {
	for _, x := range b.Links {
		if placeOf(x) == p {
			return x.Value, true
		}
	}
	return api.Value{}, false
}

// placeOf: the cell whose value a link has.
func placeOf(x api.Link) api.Place {
	return api.Place{Book: x.Book, Sheet: x.Sheet, Row: x.Row, Col: x.Col}
}
