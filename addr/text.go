package addr

import (
	"strconv"
	"strings"

	"octavo/api"
	"octavo/value"
)

const (
	fixed     = "$" // ahead of a column or a row that is fixed
	bookOpen  = "["
	bookClose = "]"
	sheetEnd  = "!"
	areaTo    = ":"
)

// CellText: a cell's name.
func CellText(row, col int) string {
	return Print(api.Ref{Row: row, Col: col})
}

// ParseCell: a cell of its name, in a column's letter of either size.
func ParseCell(s string) (api.Ref, bool) {
	var r api.Ref
	s, r.FixCol = strings.CutPrefix(s, fixed)
	if s == "" || !letter(s[0]) {
		return api.Ref{}, false
	}
	r.Col = int(value.Upper(s[:1])[0]-'A') + 1
	s, r.FixRow = strings.CutPrefix(s[1:], fixed)
	r.Row = parseRow(s)
	if !inSheet(r.Row, r.Col) {
		return api.Ref{}, false
	}
	return r, true
}

// parseRow: the number of a row, and 0, which is no row, of a text that is not just what that number is written as: a sign or a nought ahead.
func parseRow(s string) int {
	row, err := strconv.Atoi(s)
	if err != nil || strconv.Itoa(row) != s {
		return 0
	}
	return row
}

// ParseRef: a cell, perhaps of a sheet, of a book.
func ParseRef(s string) (api.Ref, bool) {
	names, cell, named := strings.Cut(s, sheetEnd)
	if !named {
		return ParseCell(s)
	}
	book, sheet, good := parseNames(names)
	r, ok := ParseCell(cell)
	if !good || !ok {
		return api.Ref{}, false
	}
	r.Book, r.Sheet = book, sheet
	return r, true
}

// parseNames: what stands ahead of the !, a sheet's name or a book's and a sheet's, and whether all of it is good. Where the book's bracket is not closed no sheet is left, and that is no good name.
func parseNames(s string) (book, sheet string, good bool) {
	rest, ofBook := strings.CutPrefix(s, bookOpen)
	if !ofBook {
		return "", s, GoodName(s)
	}
	book, sheet, _ = strings.Cut(rest, bookClose)
	return book, sheet, GoodName(book) && GoodName(sheet)
}

// Print: a ref's text.
func Print(r api.Ref) string {
	if !Good(r) {
		return ""
	}
	s := printCell(r)
	if r.Sheet != "" {
		s = r.Sheet + sheetEnd + s
	}
	if r.Book != "" {
		s = bookOpen + r.Book + bookClose + s
	}
	return s
}

// printCell: the text of a cell that lies in a sheet.
func printCell(r api.Ref) string {
	return dollar(r.FixCol) + string(rune('A'+r.Col-1)) + dollar(r.FixRow) + strconv.Itoa(r.Row)
}

// dollar: what stands ahead of a column or a row.
func dollar(fix bool) string {
	if fix {
		return fixed
	}
	return ""
}

// PrintArea: an area's text.
func PrintArea(r, to api.Ref) string {
	first, last := Print(r), Print(to)
	if first == "" || last == "" || to != cellOf(to) {
		return ""
	}
	return first + areaTo + last
}
