package box

import (
	"octavo/api"
	"octavo/bytes"
)

// directory: an entry for each chunk.
func directory(l []Chunk) []byte {
	var b []byte
	for _, c := range l {
		b = append(b, c.Tag...)
		b = putWord(b, uint32(len(c.Data)))
		b = putWord(b, bytes.Sum(c.Data))
	}
	return b
}

// open: a container's directory, and what lies between the mark and the directory's frame.
func open(b []byte) (entries, data []byte, ok bool) {
	end := len(b) - wordSize
	if end < len(mark) || string(b[:len(mark)]) != mark {
		return nil, nil, false
	}
	size := int(wordAt(b, end))
	begin := end - size
	if begin < len(mark) {
		return nil, nil, false
	}
	entries, n, e := bytes.Unframe(b[begin:end])
	// A frame may be shorter than the room that was left for it: there must be nothing behind it.
	return entries, b[len(mark):begin], e == api.OK && n == size
}

// split: the chunks that the directory tells of; false, if the data are others than it says.
func split(entries, data []byte) ([]Chunk, bool) {
	var l []Chunk
chunks:
	for len(entries) >= entrySize {
		count := int(wordAt(entries, tagSize))
		sum := wordAt(entries, tagSize+wordSize)
		switch {
		case count > len(data):
			break chunks
		case bytes.Sum(data[:count]) != sum:
			break chunks
		}
		l = append(l, Chunk{Tag: string(entries[:tagSize]), Data: fresh(data[:count])})
		entries, data = entries[entrySize:], data[count:]
	}
	// A loop that was left early has entries left, as a directory that does not end with a whole one has.
	return l, len(entries) == 0 && len(data) == 0
}

// fresh: the same bytes in memory of their own.
func fresh(b []byte) []byte { return append([]byte(nil), b...) }

// putWord: the lowest byte first.
func putWord(b []byte, x uint32) []byte {
	return append(b, byte(x), byte(x>>8), byte(x>>16), byte(x>>24))
}

// wordAt: what putWord wrote there.
func wordAt(b []byte, at int) uint32 {
	return uint32(b[at]) | uint32(b[at+1])<<8 | uint32(b[at+2])<<16 | uint32(b[at+3])<<24
}
