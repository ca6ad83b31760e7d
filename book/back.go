package book

import (
	"slices"

	"octavo/api"
	"octavo/names"
	"octavo/sheet"
)

// back: the changes that lead from after, which the change made, to the book that it was done in: the leading one, if there is one, and what differs behind it. A formula may get too long on the way, where it was shorter at both ends: such ones are taken away ahead of it, and come back with all else that differs.
func (c change) back(after api.Book, lead []api.Op) []api.Op {
	var way []api.Op
	for _, o := range lead {
		r := change{book: after, name: c.name, op: o}
		k, _ := kindOf(o.Kind)
		made, e := k.do(r)
		if e != api.OK {
			r.book = r.cleared()
			ahead, _ := Diff(after, r.book)
			way = append(way, ahead...)
			made, _ = k.do(r)
		}
		after, way = made, append(way, o)
	}
	rest, _ := Diff(after, c.book)
	return append(way, rest...)
}

func (c change) nothing() []api.Op { return nil }

func (c change) formerText() []api.Op {
	o := c.op
	text := sheet.Get(c.book, o.Sheet, o.Row, o.Col)
	return []api.Op{{Kind: api.OpSet, Sheet: o.Sheet, Row: o.Row, Col: o.Col, Text: text}}
}

func (c change) formerPlace() []api.Op {
	return []api.Op{{Kind: api.OpMove, Sheet: c.op.Sheet, At: sheet.Index(c.book, c.op.Sheet)}}
}

func (c change) formerName() []api.Op {
	x := c.op.Name
	was, _ := names.Find(c.book.Names, x.Scope, x.Name)
	return []api.Op{nameOp(api.Name{Scope: x.Scope, Name: x.Name, Text: was.Text})}
}

func (c change) formerLink() []api.Op {
	at, there := c.linked()
	if !there {
		return []api.Op{unlinkOp(c.op.Link)}
	}
	return []api.Op{linkOp(c.book.Links[at])}
}

func (c change) dropAdded() []api.Op {
	return []api.Op{{Kind: api.OpDrop, Sheet: c.op.Sheet}}
}

func (c change) addDropped() []api.Op {
	at := sheet.Index(c.book, c.op.Sheet)
	cells := slices.Clone(c.book.Sheets[at].Cells)
	return []api.Op{{Kind: api.OpSheet, Sheet: c.op.Sheet, At: at, Cells: cells}}
}

func (c change) linesBack() []api.Op {
	o := api.Op{Kind: c.op.Kind, Sheet: c.op.Sheet, At: c.op.At, N: -c.op.N}
	if c.isOut() {
		o.Book = c.op.Book
	}
	return []api.Op{o}
}
