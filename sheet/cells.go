package sheet

import (
	"cmp"
	"slices"

	"octavo/api"
)

// inside: does a cell lie in a sheet?
func inside(row, col int) bool {
	return 1 <= row && row <= api.MaxRows && 1 <= col && col <= api.MaxCols
}

// order: by row, then column.
func order(a, b api.Cell) int {
	return cmp.Or(cmp.Compare(a.Row, b.Row), cmp.Compare(a.Col, b.Col))
}

// finder: tells of cells that rise where one stands, and true; or where it would stand, and false.
func finder(l []api.Cell) func(row, col int) (int, bool) {
	return func(row, col int) (int, bool) {
		return slices.BinarySearchFunc(l, api.Cell{Row: row, Col: col}, order)
	}
}

// has: is there such a cell?
func has(l []api.Cell, row, col int) bool {
	_, there := finder(l)(row, col)
	return there
}

// with: the cells, with x in its place, or without it, if its text is empty. It works in l's own memory, so l is a copy.
func with(l []api.Cell, x api.Cell) []api.Cell {
	at, there := finder(l)(x.Row, x.Col)
	switch {
	case there && x.Text == "":
		return slices.Delete(l, at, at+1)
	case there:
		l[at] = x
		return l
	case x.Text == "":
		return l
	}
	return slices.Insert(l, at, x)
}

// laid: does each cell lie in a sheet, have a text, and stand behind the one ahead of it?
func laid(l []api.Cell) bool {
	for i, c := range l {
		if !inside(c.Row, c.Col) || c.Text == "" || i > 0 && order(l[i-1], c) >= 0 {
			return false
		}
	}
	return true
}

// texts: what is wrong with the first cell whose text may not be.
func texts(l []api.Cell) api.Errno {
	for _, c := range l {
		if e := May(c.Text); e != api.OK {
			return e
		}
	}
	return api.OK
}
