package journal

import (
	"octavo/api"
	"octavo/bytes"
)

// A header's first number is mark; a byte of a number that is not its last is at least more.
const (
	mark = 7
	more = 128
)

// record is what a frame of a journal has: a header or a group. No content is both, as their lists of numbers have other counts.
type record interface {
	content() []byte
}

type header struct {
	id int
}

type group struct {
	seq     int
	changes []api.Op
}

func (h header) content() []byte { return bytes.Ints([]int{mark, h.id}) }

func (g group) content() []byte {
	return append(bytes.Ints([]int{g.seq}), bytes.Ops(g.changes)...)
}

// framed: the frame of a record; nothing, if it has more than a frame may have.
func framed(r record) []byte { return bytes.Frame(r.content()) }

// first: the record of the frame that b begins with, and the frame's length; nil, if there is none.
func first(b []byte) (record, int) {
	content, size, e := bytes.Unframe(b)
	if e != api.OK {
		return nil, 0
	}
	if g, ok := readGroup(content); ok {
		return g, size
	}
	if h, ok := readHeader(content); ok {
		return h, size
	}
	return nil, 0
}

// readHeader: the header whose content this is.
func readHeader(content []byte) (header, bool) {
	l, e := bytes.ReadInts(content)
	if e != api.OK || len(l) != 2 || l[0] != mark {
		return header{}, false
	}
	return header{id: l[1]}, true
}

// readGroup: the group whose content this is, to its last byte.
func readGroup(content []byte) (group, bool) {
	end := endOfOne(content)
	l, e := bytes.ReadInts(content[:end])
	if e != api.OK || len(l) != 1 {
		return group{}, false
	}
	changes, e := bytes.ReadOps(content[end:])
	if e != api.OK || len(changes) == 0 {
		return group{}, false
	}
	return group{seq: l[0], changes: changes}, true
}

// endOfOne: where a list of one number ends, if b begins with one. (Its count is a single byte.)
func endOfOne(b []byte) int {
	for i := 1; i < len(b); i++ {
		if b[i] < more {
			return i + 1
		}
	}
	return len(b)
}
