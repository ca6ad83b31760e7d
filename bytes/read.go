package bytes

import "octavo/api"

// none is the panic of bytes that are no value; readWhole catches it.
type none struct{}

// reader has the bytes that were not read yet.
type reader struct {
	left []byte
}

// readWhole: the value whose bytes b is, to its last one; ErrCorrupt, if there is none.
func readWhole[T any](b []byte, take func(*reader) T) (x T, e api.Errno) {
	defer func() {
		if p := recover(); p != nil {
			if _, ok := p.(none); !ok {
				panic(p)
			}
			e = api.ErrCorrupt
		}
	}()
	r := &reader{left: b}
	whole := take(r)
	if len(r.left) > 0 {
		panic(none{})
	}
	return whole, api.OK
}

// takeList: the count, and each item as take reads it. No room is made ahead, since a count that is wrong may be a great one.
func takeList[T any](r *reader, take func(*reader) T) []T {
	var l []T
	for range r.count() {
		l = append(l, take(r))
	}
	return l
}

// cut: the next n bytes, that are read now.
func (r *reader) cut(n int) []byte {
	if n > len(r.left) {
		panic(none{})
	}
	b := r.left[:n]
	r.left = r.left[n:]
	return b
}

// number: what putNumber wrote, and nothing that it would have written in another way.
func (r *reader) number() int {
	const lastShift = 63
	u := uint64(0)
	for shift := 0; ; shift += 7 {
		d := r.cut(1)[0]
		if shift == lastShift && d > 1 {
			panic(none{})
		}
		u |= uint64(d%base) << shift
		if d >= base {
			continue
		}
		if d == 0 && shift > 0 {
			panic(none{})
		}
		return unfold(u)
	}
}

// unfold: the number that fold made this of.
func unfold(u uint64) int {
	n := int(u / 2)
	if u%2 == 1 {
		return -n - 1
	}
	return n
}

// count: of a text's bytes or of a list's items, which have at least a byte each.
func (r *reader) count() int {
	n := r.number()
	if n < 0 || n > len(r.left) {
		panic(none{})
	}
	return n
}

func (r *reader) text() string { return string(r.cut(r.count())) }

func takeInts(r *reader) []int { return takeList(r, (*reader).number) }

func takeOps(r *reader) []api.Op { return takeList(r, takeOp) }

// The calls in a literal are made from the left: each literal below names its fields in api's order, since that is how they stand.

func takeBook(r *reader) api.Book {
	return api.Book{
		Sheets: takeList(r, takeSheet),
		Names:  takeList(r, takeName),
		Links:  takeList(r, takeLink),
	}
}

func takeSheet(r *reader) api.Sheet {
	return api.Sheet{
		Name:  r.text(),
		Cells: takeList(r, takeCell),
	}
}

func takeCell(r *reader) api.Cell {
	return api.Cell{
		Row:  r.number(),
		Col:  r.number(),
		Text: r.text(),
	}
}

func takeName(r *reader) api.Name {
	return api.Name{
		Scope: r.text(),
		Name:  r.text(),
		Text:  r.text(),
	}
}

func takeLink(r *reader) api.Link {
	return api.Link{
		Book:  r.text(),
		Sheet: r.text(),
		Row:   r.number(),
		Col:   r.number(),
		Value: takeValue(r),
	}
}

func takeValue(r *reader) api.Value {
	return api.Value{
		Kind: r.number(),
		N:    r.number(),
		S:    r.text(),
	}
}

func takeOp(r *reader) api.Op {
	return api.Op{
		Kind:  r.number(),
		Book:  r.text(),
		Sheet: r.text(),
		At:    r.number(),
		N:     r.number(),
		Row:   r.number(),
		Col:   r.number(),
		Text:  r.text(),
		Name:  takeName(r),
		Link:  takeLink(r),
		Cells: takeList(r, takeCell),
	}
}
