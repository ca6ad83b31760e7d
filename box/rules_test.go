package box_test

import (
	"strings"
	"testing"

	"octavo/api"
	"octavo/box"
)

// copied: chunks in memory of their own.
func copied(l []box.Chunk) []box.Chunk {
	var out []box.Chunk
	for _, c := range l {
		out = append(out, box.Chunk{Tag: c.Tag, Data: append([]byte(nil), c.Data...)})
	}
	return out
}

// scribble: all bytes, those in the room behind too, are others.
func scribble(b []byte) {
	b = b[:cap(b)]
	for i := range b {
		b[i] ^= 0xa5
	}
}

// R1

func TestNothingPanics(t *testing.T) {
	odd := []box.Chunk{{}, {Tag: "A"}, {Tag: strings.Repeat("A", 1<<20)}, {Data: make([]byte, 1<<20)}, {Tag: "\xff\xfe"}}
	for _, l := range [][]box.Chunk{nil, {}, odd, many(1000, 3), make([]box.Chunk, 1000)} {
		box.Write(l)
		for _, c := range odd {
			box.Find(l, c.Tag)
			box.Good(c.Tag)
			box.Read(c.Data)
			box.Id(c.Data)
		}
	}
}

// A long list of tags is gone through in no time, though a tag may be there twice.
func TestWriteOfAllTags(t *testing.T) {
	l := make([]box.Chunk, 26*26*26*26)
	for i := range l {
		l[i].Tag = tag(i)
	}
	unwritten(t, "all tags", l, api.ErrRange)
	unwritten(t, "all tags, and the last one again", append(l, l[len(l)-1]), api.ErrExists)
}

// R3

func TestArgumentsStay(t *testing.T) {
	for what, l := range boxes() {
		room := append(copied(l), box.Chunk{Tag: "ROOM", Data: []byte("behind")})
		for i := range room {
			// Each chunk's data have room behind, too.
			room[i].Data = append(room[i].Data, "room"...)
		}
		was := show(room)
		in := room[:len(l)]
		for i := range in {
			in[i].Data = in[i].Data[:len(l[i].Data)]
		}
		written(t, what, in, stand(l))
		for _, c := range l {
			box.Find(in, c.Tag)
		}
		for i := range in {
			in[i].Data = in[i].Data[:len(l[i].Data)+4]
		}
		same(t, "the chunks behind Write and Find", show(room), was)

		b := append(stand(l), "room behind"...)
		before := string(b)
		reads(t, what, b[:len(b)-11], l)
		box.Id(b[:len(b)-11])
		same(t, "the bytes behind Read and Id", string(b), before)
	}
}

func TestWriteKeepsNothing(t *testing.T) {
	for what, l := range boxes() {
		in := copied(l)
		b, _ := box.Write(in)
		for i := range in {
			scribble(in[i].Data)
			in[i].Tag = "XXXX"
		}
		same(t, "Write of "+what+" behind a change of the chunks", string(b), string(stand(l)))
		scribble(b)
		written(t, what+" once more", l, stand(l))
	}
}

func TestReadKeepsNothing(t *testing.T) {
	for what, l := range boxes() {
		b := stand(l)
		got, _ := box.Read(b)
		scribble(b)
		same(t, "Read of "+what+" behind a change of the bytes", show(got), show(l))

		b = stand(l)
		got, _ = box.Read(b)
		for i := range got {
			scribble(got[i].Data)
		}
		same(t, "the bytes behind a change of the chunks", string(b), string(stand(l)))
	}
}

func TestFindKeepsNothing(t *testing.T) {
	l := copied(some())
	b, _ := box.Find(l, "MORE")
	scribble(b)
	same(t, "the chunks behind a change of what was found", show(l), show(some()))
	b, _ = box.Find(l, "MORE")
	scribble(l[2].Data)
	same(t, "what was found behind a change of the chunks", string(b), string(much(20)))
}

// What is written into the room behind one list of an answer is not seen in another one.
func TestListsShareNothing(t *testing.T) {
	l := many(32, 7)
	got, _ := box.Read(stand(l))
	for i := range got {
		room := got[i].Data[:cap(got[i].Data)]
		clear(room[len(got[i].Data):])
		same(t, "the chunks behind what was written into one's room", show(got), show(l))
	}
	for i := range got {
		scribble(got[i].Data)
		l[i].Data = append([]byte(nil), got[i].Data...)
		same(t, "the chunks behind a change of one", show(got), show(l))
	}
}

func TestNilIsEmpty(t *testing.T) {
	with := []box.Chunk{{Tag: "BOOK", Data: []byte{}}}
	written(t, "an empty list", []box.Chunk{}, stand(nil))
	written(t, "empty data", with, stand([]box.Chunk{{Tag: "BOOK"}}))
	reads(t, "empty data", stand(with), []box.Chunk{{Tag: "BOOK"}})
	if b, ok := box.Find(with, "BOOK"); !ok || len(b) != 0 {
		t.Errorf("Find of empty data: %q %v", b, ok)
	}
}

// R4

func TestCallsAnswerTheSameAgain(t *testing.T) {
	for what, l := range boxes() {
		for range 3 {
			written(t, what, copied(l), stand(l))
			reads(t, what, stand(l), l)
		}
	}
}
