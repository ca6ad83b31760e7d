package book

import (
	"slices"

	"octavo/api"
	"octavo/box"
	"octavo/bytes"
)

// tag: of the one chunk of a book's container.
const tag = "BOOK"

// Encode: a container with the book's bytes.
func Encode(b api.Book) ([]byte, api.Errno) {
	if e := Check(b); e != api.OK {
		return nil, e
	}
	return box.Write([]box.Chunk{{Tag: tag, Data: bytes.Book(b)}})
}

// Decode: the book of which the bytes are what Encode tells. That is asked of Encode itself, so that no other chunk and no book that is wrong gets by.
func Decode(b []byte) (api.Book, api.Errno) {
	chunks, _ := box.Read(b)
	data, _ := box.Find(chunks, tag)
	x, e := bytes.ReadBook(data)
	if e != api.OK {
		return api.Book{}, api.ErrCorrupt
	}
	again, e := Encode(x)
	if e != api.OK || !slices.Equal(again, b) {
		return api.Book{}, api.ErrCorrupt
	}
	return x, api.OK
}
