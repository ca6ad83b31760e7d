package bytes

import "octavo/api"

// A digit of a number is below base; one that is not the last has base added.
const base = 128

// putList: the count, and each item as put writes it.
func putList[T any](b []byte, l []T, put func([]byte, T) []byte) []byte {
	b = putNumber(b, len(l))
	for _, x := range l {
		b = put(b, x)
	}
	return b
}

// putNumber: 2n, or -2n - 1 below 0.
func putNumber(b []byte, n int) []byte {
	u := fold(n)
	for u >= base {
		b = append(b, byte(u%base)+base)
		u /= base
	}
	return append(b, byte(u))
}

// fold: 2n, or -2n - 1 below 0, by steps of which none wraps, at the least int either.
func fold(n int) uint64 {
	if n < 0 {
		return 2*uint64(-(n+1)) + 1
	}
	return 2 * uint64(n)
}

func putText(b []byte, s string) []byte {
	return append(putNumber(b, len(s)), s...)
}

func putBook(b []byte, x api.Book) []byte {
	b = putList(b, x.Sheets, putSheet)
	b = putList(b, x.Names, putName)
	return putList(b, x.Links, putLink)
}

func putSheet(b []byte, x api.Sheet) []byte {
	b = putText(b, x.Name)
	return putList(b, x.Cells, putCell)
}

func putCell(b []byte, x api.Cell) []byte {
	b = putNumber(b, x.Row)
	b = putNumber(b, x.Col)
	return putText(b, x.Text)
}

func putName(b []byte, x api.Name) []byte {
	b = putText(b, x.Scope)
	b = putText(b, x.Name)
	return putText(b, x.Text)
}

func putLink(b []byte, x api.Link) []byte {
	b = putText(b, x.Book)
	b = putText(b, x.Sheet)
	b = putNumber(b, x.Row)
	b = putNumber(b, x.Col)
	return putValue(b, x.Value)
}

func putValue(b []byte, x api.Value) []byte {
	b = putNumber(b, x.Kind)
	b = putNumber(b, x.N)
	return putText(b, x.S)
}

// putOp writes all fields, those too that the kind does not name: what is read is to be the very value.
func putOp(b []byte, x api.Op) []byte {
	b = putNumber(b, x.Kind)
	b = putText(b, x.Book)
	b = putText(b, x.Sheet)
	b = putNumber(b, x.At)
	b = putNumber(b, x.N)
	b = putNumber(b, x.Row)
	b = putNumber(b, x.Col)
	b = putText(b, x.Text)
	b = putName(b, x.Name)
	b = putLink(b, x.Link)
	return putList(b, x.Cells, putCell)
}
