package sheet

import (
	"slices"

	"octavo/addr"
	"octavo/api"
)

// Add: the book with one sheet more, which has those cells.
func Add(b api.Book, sheet string, at int, l []api.Cell) (api.Book, api.Errno) {
	switch {
	case !addr.GoodName(sheet):
		return api.Book{}, api.ErrName
	case Index(b, sheet) >= 0:
		return api.Book{}, api.ErrExists
	case at < 0 || at > len(b.Sheets) || !laid(l) || texts(l) != api.OK:
		return api.Book{}, api.ErrRange
	case len(b.Sheets) >= api.MaxSheets:
		return api.Book{}, api.ErrSheets
	case Count(b)+len(l) > api.MaxCells:
		return api.Book{}, api.ErrCells
	}
	after := Copy(b)
	after.Sheets = slices.Insert(after.Sheets, at, api.Sheet{Name: sheet, Cells: copied(l)})
	return after, api.OK
}

// Drop: the book without a sheet. Names of its scope stay, since they are not the sheets'.
func Drop(b api.Book, sheet string) (api.Book, api.Errno) {
	from := Index(b, sheet)
	switch {
	case from < 0:
		return api.Book{}, api.ErrNone
	case len(b.Sheets) == 1:
		return api.Book{}, api.ErrSheets
	}
	after := Copy(b)
	after.Sheets = slices.Delete(after.Sheets, from, from+1)
	return after, api.OK
}

// Move: the book, in which a sheet stands at another place, and the others in their order.
func Move(b api.Book, sheet string, at int) (api.Book, api.Errno) {
	from := Index(b, sheet)
	switch {
	case from < 0:
		return api.Book{}, api.ErrNone
	case at < 0 || at >= len(b.Sheets):
		return api.Book{}, api.ErrRange
	}
	after := Copy(b)
	s := after.Sheets[from]
	after.Sheets = slices.Insert(slices.Delete(after.Sheets, from, from+1), at, s)
	return after, api.OK
}

// Check: what is wrong with a book's sheets and cells. Each fault is looked for in all sheets ahead of the next one.
func Check(b api.Book) api.Errno {
	switch {
	case len(b.Sheets) == 0 || len(b.Sheets) > api.MaxSheets:
		return api.ErrSheets
	case slices.ContainsFunc(b.Sheets, misnamed):
		return api.ErrName
	case twice(b):
		return api.ErrExists
	case slices.ContainsFunc(b.Sheets, mislaid):
		return api.ErrRange
	}
	for _, s := range b.Sheets {
		if e := texts(s.Cells); e != api.OK {
			return e
		}
	}
	if Count(b) > api.MaxCells {
		return api.ErrCells
	}
	return api.OK
}

// misnamed: has a sheet a name that may not be?
func misnamed(s api.Sheet) bool { return !addr.GoodName(s.Name) }

// mislaid: has a sheet a cell that may not stand there?
func mislaid(s api.Sheet) bool { return !laid(s.Cells) }

// twice: are two sheets called the same? The second one is never the first of its name.
func twice(b api.Book) bool {
	for i, s := range b.Sheets {
		if Index(b, s.Name) != i {
			return true
		}
	}
	return false
}
