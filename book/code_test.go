package book_test

import (
	"slices"
	"testing"

	"octavo/api"
	"octavo/book"
	"octavo/box"
	"octavo/bytes"
)

// P15.4 and P15.6

// container: the bytes of chunks.
func container(t *testing.T, l ...box.Chunk) []byte {
	t.Helper()
	b, e := box.Write(l)
	same(t, e, api.OK, "Write")
	return b
}

func chunk(tag string, data []byte) box.Chunk { return box.Chunk{Tag: tag, Data: data} }

// largest: a book that has as much as a book may have.
func largest() api.Book {
	b := api.Book{Names: append(manyNames("", 16), manyNames("S", 16)...), Links: manyLinks(64)}
	for i, n := range []string{"S", "T", "U", "V"} {
		b.Sheets = append(b.Sheets, page(n, many(200)[50*i:50*i+50]...))
		for j := range 50 {
			b.Sheets[i].Cells[j].Text = padded("=A1", 255)
		}
	}
	for i := range b.Names {
		b.Names[i].Text = padded("A1", 255)
	}
	for i := range b.Links {
		b.Links[i].Value = api.Value{Kind: api.Str, S: bytesOf(255)}
	}
	return b
}

func TestEncode(t *testing.T) {
	for _, b := range []api.Book{book.New(), some(), largest(), made("S:"), made("S: A1 x", "[c]S!A1 \xff")} {
		got, e := book.Encode(b)
		same(t, e, api.OK, "Encode")
		same(t, string(got), string(container(t, chunk("BOOK", bytes.Book(b)))), "Encode")
		x, e := book.Decode(got)
		same(t, e, api.OK, "Decode")
		alike(t, x, b, "Decode of Encode")
	}
}

func TestEncodeOfWrongBooks(t *testing.T) {
	for _, f := range faults() {
		got, e := book.Encode(with(some(), f.put))
		same(t, e, f.e, "Encode", f.what)
		same(t, len(got), 0, "Encode", f.what)
	}
	_, e := book.Encode(api.Book{})
	same(t, e, api.ErrSheets, "Encode of nothing")
}

// corrupt: bytes of which no book is what Encode tells.
func corrupt(t *testing.T, b []byte, what string, args ...any) {
	x, e := book.Decode(b)
	if e != api.ErrCorrupt || shown(x) != "" {
		t.Helper()
		t.Fatalf("Decode of %s%v: %d, %s", what, args, e, shown(x))
	}
}

func TestDecodeOfOtherBytes(t *testing.T) {
	data := bytes.Book(some())
	good := container(t, chunk("BOOK", data))
	corrupt(t, nil, "nothing")
	corrupt(t, []byte{}, "nothing")
	corrupt(t, []byte("OCTAVO1\n"), "a beginning")
	corrupt(t, data, "no container")
	corrupt(t, container(t), "no chunk")
	for _, tag := range []string{"BOOL", "KOOB", "AAAA"} {
		corrupt(t, container(t, chunk(tag, data)), "another chunk")
		corrupt(t, container(t, chunk("BOOK", data), chunk(tag, nil)), "one chunk more")
		corrupt(t, container(t, chunk(tag, data), chunk("BOOK", data)), "one chunk more ahead")
	}
	for i := range data {
		corrupt(t, container(t, chunk("BOOK", data[:i])), "a book's beginning", i)
	}
	corrupt(t, container(t, chunk("BOOK", append(slices.Clone(data), 0))), "a book and more")
	corrupt(t, container(t, chunk("BOOK", bytes.Ops(kinds()))), "changes")
	// The name's count, 1, in two bytes.
	corrupt(t, container(t, chunk("BOOK", slices.Concat(data[:1], []byte{130, 0}, data[2:]))), "a number that is too long")
	for i := range good {
		corrupt(t, good[:i], "a beginning", i)
		corrupt(t, good[i+1:], "an end", i)
		for bit := range 8 {
			b := slices.Clone(good)
			b[i] ^= 1 << bit
			corrupt(t, b, "a bit that is turned", i, bit)
		}
	}
	corrupt(t, append(slices.Clone(good), 0), "a byte more")
	corrupt(t, slices.Concat(good, good), "two of them")
}

// The bytes of a book that Check finds wrong.
func TestDecodeOfWrongBooks(t *testing.T) {
	for _, f := range faults() {
		corrupt(t, container(t, chunk("BOOK", bytes.Book(with(some(), f.put)))), f.what)
	}
	corrupt(t, container(t, chunk("BOOK", bytes.Book(api.Book{}))), "a book of nothing")
}
