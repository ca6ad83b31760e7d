package book

import (
	"slices"

	"octavo/addr"
	"octavo/api"
	"octavo/names"
	"octavo/sheet"
	"octavo/shift"
)

// change is one that is to be done in a right book, which is called name.
type change struct {
	book api.Book
	name string
	op   api.Op
}

// kind is what a kind of change does, and what leads its way back, if anything does.
type kind struct {
	do   func(change) (api.Book, api.Errno)
	lead func(change) []api.Op
}

// kindOf: false, if there is no such kind.
func kindOf(n int) (kind, bool) {
	kinds := [...]kind{
		api.OpSet:     {change.set, change.formerText},
		api.OpRows:    {change.lines, change.linesBack},
		api.OpCols:    {change.lines, change.linesBack},
		api.OpSheet:   {change.add, change.dropAdded},
		api.OpDrop:    {change.drop, change.addDropped},
		api.OpMove:    {change.move, change.formerPlace},
		api.OpName:    {change.define, change.formerName},
		api.OpLink:    {change.cache, change.formerLink},
		api.OpUnlink:  {change.uncache, change.formerLink},
		api.OpOutRows: {change.outside, change.linesBack},
		api.OpOutCols: {change.outside, change.linesBack},
		api.OpOutDrop: {change.outside, change.nothing},
	}
	if n < api.OpSet || n >= len(kinds) {
		return kind{}, false
	}
	return kinds[n], true
}

// done: the book behind the change, and the changes that lead back.
func (c change) done() (api.Book, []api.Op, api.Errno) {
	k, known := kindOf(c.op.Kind)
	if !known {
		return api.Book{}, nil, api.ErrArg
	}
	after, e := k.do(c)
	if e != api.OK {
		return api.Book{}, nil, e
	}
	return after, c.back(after, k.lead(c)), api.OK
}

func (c change) set() (api.Book, api.Errno) {
	return sheet.Put(c.book, c.op.Sheet, c.op.Row, c.op.Col, c.op.Text)
}

func (c change) add() (api.Book, api.Errno) {
	return sheet.Add(c.book, c.op.Sheet, c.op.At, c.op.Cells)
}

func (c change) move() (api.Book, api.Errno) {
	return sheet.Move(c.book, c.op.Sheet, c.op.At)
}

// lines: rows, or columns, of one of the book's sheets come or go.
func (c change) lines() (api.Book, api.Errno) {
	at, t := sheet.Index(c.book, c.op.Sheet), c.turn()
	if at < 0 {
		return api.Book{}, api.ErrNone
	}
	cells, _, fit := shift.Cells(t.Shift, t.Cols, c.book.Sheets[at].Cells)
	if !fit {
		return api.Book{}, api.ErrRange
	}
	after := sheet.Copy(c.book)
	after.Sheets[at].Cells = cells
	return c.followed(after)
}

// drop: what goes is gone ahead of the formulas that follow, so that none of it can get too long.
func (c change) drop() (api.Book, api.Errno) {
	after, e := sheet.Drop(c.book, c.op.Sheet)
	if e != api.OK {
		return api.Book{}, e
	}
	after.Names = names.Drop(after.Names, c.op.Sheet)
	return c.followed(after)
}

// define: a name without a text goes. Of a sheet that there is not there is none that could go either.
func (c change) define() (api.Book, api.Errno) {
	x := c.op.Name
	if !scoped(c.book, x) {
		return api.Book{}, api.ErrNone
	}
	l, e := names.Define(c.book.Names, x)
	if x.Text == "" {
		l, e = names.Remove(c.book.Names, x.Scope, x.Name)
	}
	if e != api.OK {
		return api.Book{}, e
	}
	after := sheet.Copy(c.book)
	after.Names = l
	return after, api.OK
}

func (c change) cache() (api.Book, api.Errno) {
	at, there := c.linked()
	switch {
	case !wellNamed(c.op.Link):
		return api.Book{}, api.ErrName
	case !wellValued(c.op.Link) || !there && len(c.book.Links) >= api.MaxLinks:
		return api.Book{}, api.ErrRange
	}
	after := sheet.Copy(c.book)
	if there {
		after.Links[at] = c.op.Link
	} else {
		after.Links = slices.Insert(after.Links, at, c.op.Link)
	}
	return after, api.OK
}

func (c change) uncache() (api.Book, api.Errno) {
	at, there := c.linked()
	if !there {
		return api.Book{}, api.ErrNone
	}
	after := sheet.Copy(c.book)
	after.Links = slices.Delete(after.Links, at, at+1)
	return after, api.OK
}

// linked: where the link of that cell stands, or would stand.
func (c change) linked() (int, bool) {
	return slices.BinarySearchFunc(c.book.Links, c.op.Link, CmpLink)
}

// outside: formulas and links follow what is done to a sheet of another book.
func (c change) outside() (api.Book, api.Errno) {
	t := c.turn()
	switch {
	case !addr.GoodName(c.op.Book) || c.op.Book == c.name:
		return api.Book{}, api.ErrArg
	case !addr.GoodName(c.op.Sheet):
		return api.Book{}, api.ErrName
	case !t.Drop && !shift.Good(t.Shift):
		return api.Book{}, api.ErrRange
	}
	after, e := c.followed(sheet.Copy(c.book))
	if e != api.OK {
		return api.Book{}, e
	}
	after.Links = moved(after.Links, t)
	return after, api.OK
}
