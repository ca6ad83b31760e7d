package sheet

import (
	"slices"

	"octavo/api"
)

// Copy: a book like it that shares no memory with it.
func Copy(b api.Book) api.Book {
	sheets := copied(b.Sheets)
	for i := range sheets {
		sheets[i].Cells = copied(sheets[i].Cells)
	}
	return api.Book{Sheets: sheets, Names: copied(b.Names), Links: copied(b.Links)}
}

// copied: a list's items in a list of their own, which has no spare room.
func copied[T any](l []T) []T {
	own := make([]T, len(l))
	copy(own, l)
	return own
}

// Same: are two books alike in all fields?
func Same(a, b api.Book) bool {
	return slices.EqualFunc(a.Sheets, b.Sheets, alike) && slices.Equal(a.Names, b.Names) && slices.Equal(a.Links, b.Links)
}

// alike: are two sheets called the same, with the same cells?
func alike(a, b api.Sheet) bool {
	return a.Name == b.Name && slices.Equal(a.Cells, b.Cells)
}
