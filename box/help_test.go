package box_test

import (
	"encoding/binary"
	"hash/crc32"
	"strconv"
	"testing"

	"octavo/api"
	"octavo/box"
)

// entry is a line of a directory, right or wrong.
type entry struct {
	tag        string
	count, sum uint32
}

// entries: the right ones.
func entries(l []box.Chunk) []entry {
	var d []entry
	for _, c := range l {
		d = append(d, entry{c.Tag, uint32(len(c.Data)), crc32.ChecksumIEEE(c.Data)})
	}
	return d
}

// data: of all chunks, one behind the other.
func data(l []box.Chunk) []byte {
	var b []byte
	for _, c := range l {
		b = append(b, c.Data...)
	}
	return b
}

func word(b []byte, x uint32) []byte { return binary.LittleEndian.AppendUint32(b, x) }

// framed: by the document's words alone.
func framed(content []byte) []byte {
	b := append(word(nil, uint32(len(content))), content...)
	return word(b, crc32.ChecksumIEEE(b))
}

// table: a directory in bytes.
func table(d []entry) []byte {
	var b []byte
	for _, x := range d {
		b = word(word(append(b, x.tag...), x.count), x.sum)
	}
	return b
}

// join: the mark, and parts behind it.
func join(parts ...[]byte) []byte {
	b := []byte{'O', 'C', 'T', 'A', 'V', 'O', '1', 10}
	for _, p := range parts {
		b = append(b, p...)
	}
	return b
}

// container: of data and a directory, be they right or wrong; all around them is right.
func container(data, directory []byte) []byte {
	frame := framed(directory)
	return join(data, frame, word(nil, uint32(len(frame))))
}

// stand: the bytes of chunks by the document's words alone, whatever the chunks are.
func stand(l []box.Chunk) []byte { return container(data(l), table(entries(l))) }

// much: so many bytes, no two neighbours alike.
func much(n int) []byte {
	b := make([]byte, n)
	for i := range b {
		b[i] = byte(i*7 + i>>8)
	}
	return b
}

// tag: the one of this number.
func tag(n int) string {
	return string([]byte{byte('A' + n/17576%26), byte('A' + n/676%26), byte('A' + n/26%26), byte('A' + n%26)})
}

// many: so many chunks, each with size bytes.
func many(n, size int) []box.Chunk {
	l := make([]box.Chunk, n)
	for i := range l {
		// Where they begin is another place for each, so that no two have the same data.
		begin := i % 256
		l[i] = box.Chunk{Tag: tag(i), Data: much(size + begin)[begin:]}
	}
	return l
}

// full: n chunks that have MaxFrame bytes in all, and more beyond that.
func full(n, more int) []box.Chunk {
	l := many(n, api.MaxFrame/n)
	l[n-1].Data = much(api.MaxFrame - api.MaxFrame/n*(n-1) + more)
	return l
}

// boxes: lists of chunks that are good.
func boxes() map[string][]box.Chunk {
	return map[string][]box.Chunk{
		"no chunks":                  nil,
		"a chunk without data":       {{Tag: "BOOK"}},
		"a chunk":                    {{Tag: "BOOK", Data: []byte("xy")}},
		"chunks without data":        many(32, 0),
		"two chunks":                 {{Tag: "ZZZZ", Data: []byte{0}}, {Tag: "AAAA", Data: much(300)}},
		"chunks of the same data":    {{Tag: "ABCD", Data: much(9)}, {Tag: "ABCE", Data: much(9)}, {Tag: "DCBA"}, {Tag: "BACD", Data: much(9)}},
		"data that are a container":  {{Tag: "BOXX", Data: stand([]box.Chunk{{Tag: "BOOK", Data: []byte("xy")}})}},
		"data that are a frame":      {{Tag: "FRAM", Data: framed(nil)}},
		"32 chunks":                  many(32, 11),
		"a chunk of MaxFrame":        full(1, 0),
		"chunks of MaxFrame in all":  full(5, 0),
		"32 of MaxFrame in all":      full(32, 0),
		"a chunk of MaxFrame - 1":    full(1, -1),
		"MaxFrame, and none further": append(full(1, 0), box.Chunk{Tag: "ZZZZ"}),
	}
}

// show: chunks as a text; nil and empty data look alike.
func show(l []box.Chunk) string {
	s := strconv.Itoa(len(l)) + " chunks"
	for _, c := range l {
		s += " " + strconv.Quote(c.Tag) + strconv.Quote(string(c.Data))
	}
	return s
}

// short: of a text that may be a long one.
func short(s string) string {
	if len(s) > 400 {
		return s[:400] + ".."
	}
	return s
}

// same: both texts are the same.
func same(t *testing.T, what, got, want string) {
	t.Helper()
	if got != want {
		t.Fatalf("%s: %q, want %q", what, short(got), short(want))
	}
}

// written: Write tells these bytes.
func written(t *testing.T, what string, l []box.Chunk, want []byte) {
	t.Helper()
	b, e := box.Write(l)
	if e != api.OK || string(b) != string(want) {
		t.Fatalf("Write of %s: % x %v, want % x", what, short(string(b)), e, short(string(want)))
	}
}

// unwritten: Write answers this error, and nothing beside it.
func unwritten(t *testing.T, what string, l []box.Chunk, want api.Errno) {
	t.Helper()
	if b, e := box.Write(l); e != want || len(b) != 0 {
		t.Fatalf("Write of %s: %d bytes, %v, want none and %v", what, len(b), e, want)
	}
}

// reads: Read tells these chunks.
func reads(t *testing.T, what string, b []byte, want []box.Chunk) {
	t.Helper()
	l, e := box.Read(b)
	if e != api.OK {
		t.Fatalf("Read of %s: %v", what, e)
	}
	same(t, "Read of "+what, show(l), show(want))
}

// refused: Read answers ErrCorrupt, and nothing beside it.
func refused(t *testing.T, what string, b []byte) {
	t.Helper()
	if l, e := box.Read(b); e != api.ErrCorrupt || len(l) != 0 {
		t.Fatalf("Read of %s: %s %v, want nothing and %v", what, short(show(l)), e, api.ErrCorrupt)
	}
}
