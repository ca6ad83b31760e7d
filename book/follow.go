package book

import (
	"slices"
	"strings"

	"octavo/api"
	"octavo/rewrite"
	"octavo/sheet"
	"octavo/shift"
)

// equals stands ahead of a cell's formula, and not ahead of a name's.
const equals = "="

// isOut: is it a change of a sheet of another book?
func (c change) isOut() bool {
	switch c.op.Kind {
	case api.OpOutRows, api.OpOutCols, api.OpOutDrop:
		return true
	}
	return false
}

// turn: what the change is to formulas.
func (c change) turn() rewrite.Change {
	t := rewrite.Change{Book: c.name, Sheet: c.op.Sheet}
	if c.isOut() {
		t.Book = c.op.Book
	}
	switch c.op.Kind {
	case api.OpRows, api.OpOutRows:
		t.Shift = shift.Shift{At: c.op.At, N: c.op.N, Most: api.MaxRows}
	case api.OpCols, api.OpOutCols:
		t.Cols = true
		t.Shift = shift.Shift{At: c.op.At, N: c.op.N, Most: api.MaxCols}
	case api.OpDrop, api.OpOutDrop:
		t.Drop = true
	}
	return t
}

// followed: a book, all of whose formulas have followed the change; it works in the book's own memory.
func (c change) followed(b api.Book) (api.Book, api.Errno) {
	for _, s := range b.Sheets {
		for i, x := range s.Cells {
			text, e := c.follow(s.Name, x.Text)
			if e != api.OK {
				return api.Book{}, e
			}
			s.Cells[i].Text = text
		}
	}
	for i, x := range b.Names {
		text, e := c.follow(x.Scope, equals+x.Text)
		if e != api.OK {
			return api.Book{}, e
		}
		b.Names[i].Text = strings.TrimPrefix(text, equals)
	}
	return b, api.OK
}

// follow: the text of a cell of one of the book's sheets, behind the change.
func (c change) follow(sheet, text string) (string, api.Errno) {
	text, _, e := rewrite.Text(text, api.Place{Book: c.name, Sheet: sheet}, c.turn())
	return text, e
}

// cleared: the book without the formulas that the change would make too long. Those of a sheet that goes need not be taken away.
func (c change) cleared() api.Book {
	long := func(sheet, text string) bool {
		_, e := c.follow(sheet, text)
		return e != api.OK
	}
	b, t := sheet.Copy(c.book), c.turn()
	for i, s := range b.Sheets {
		if t.Drop && s.Name == t.Sheet {
			continue
		}
		b.Sheets[i].Cells = slices.DeleteFunc(s.Cells, func(x api.Cell) bool { return long(s.Name, x.Text) })
	}
	b.Names = slices.DeleteFunc(b.Names, func(x api.Name) bool { return long(x.Scope, equals+x.Text) })
	return b
}

// moved: links, of which those of the changed sheet stand where their cells do, or are gone. Their order stays, since lines keep theirs.
func moved(l []api.Link, t rewrite.Change) []api.Link {
	var left []api.Link
	for _, x := range l {
		stays := true
		if x.Book == t.Book && x.Sheet == t.Sheet {
			x, stays = movedLink(x, t)
		}
		if stays {
			left = append(left, x)
		}
	}
	return left
}

// movedLink: false, if its cell goes.
func movedLink(x api.Link, t rewrite.Change) (api.Link, bool) {
	if t.Drop {
		return x, false
	}
	line := &x.Row
	if t.Cols {
		line = &x.Col
	}
	to, stays := shift.Pos(t.Shift, *line)
	*line = to
	return x, stays
}
