package bytes_test

import (
	"fmt"
	"math/rand"
	"testing"

	"octavo/api"
	"octavo/bytes"
)

// blocks: bytes of all sorts.
func blocks() [][]byte {
	l := [][]byte{nil, {}, {0}, {1}, {255}, []byte("PK\x03\x04 something else"), much(5000), make([]byte, 5000), make([]byte, api.MaxFile+1)}
	r := rand.New(rand.NewSource(6))
	for n := range 300 {
		b := make([]byte, n)
		r.Read(b)
		l = append(l, b)
	}
	return l
}

// R1

func TestNothingPanics(t *testing.T) {
	for _, b := range blocks() {
		bytes.Sum(b)
		bytes.Frame(b)
		bytes.Unframe(b)
		for _, c := range readings() {
			c.read(b)
		}
	}
	for _, x := range books() {
		bytes.Book(x)
	}
	for _, l := range groups() {
		bytes.Ops(l)
	}
	bytes.Ints(ends())
}

// R2, R7: beside an error there is nothing else.

func TestNoBytesAtAll(t *testing.T) {
	for _, c := range readings() {
		refused(t, c, nil)
		refused(t, c, []byte{})
	}
	unframed(t, "nil", nil, api.ErrAgain)
	unframed(t, "nothing", []byte{}, api.ErrAgain)
}

func TestBytesOfAnother(t *testing.T) {
	l := readings()
	book := bytes.Book(books()[2])
	ops := bytes.Ops([]api.Op{fullOp()})
	refused(t, l[0], ops)
	refused(t, l[0], []byte{0})
	refused(t, l[1], book)
	refused(t, l[1], []byte{2, 0})
	refused(t, l[2], book)
	refused(t, l[2], ops)
	for _, c := range l {
		refused(t, c, bytes.Frame(book))
		refused(t, c, []byte("book"))
		refused(t, c, make([]byte, 100))
	}
}

func TestRefusedAtTheLastByte(t *testing.T) {
	// All of it was read but the last byte: what was read is not handed out.
	for _, c := range readings() {
		b := c.made(rand.New(rand.NewSource(7)))
		refused(t, c, append(b, 0))
	}
}

// R3

func TestArgumentsStay(t *testing.T) {
	for _, b := range append(blocks(), bytes.Frame(much(9)), bytes.Book(books()[2])) {
		if len(b) > 1<<16 {
			continue
		}
		room := append(append([]byte(nil), b...), 1, 2, 3, 4, 5, 6, 7, 8, 9)
		was := string(room)
		in := room[:len(b)]
		bytes.Sum(in)
		bytes.Frame(in)
		bytes.Unframe(in)
		for _, c := range readings() {
			c.read(in)
		}
		if string(room) != was {
			t.Fatalf("% x became % x", was, room)
		}
	}
	for _, x := range books() {
		was := fmt.Sprintf("%#v", x)
		bytes.Book(x)
		same(t, "the book", fmt.Sprintf("%#v", x), was)
	}
	for _, l := range groups() {
		was := fmt.Sprintf("%#v", l)
		bytes.Ops(l)
		same(t, "the changes", fmt.Sprintf("%#v", l), was)
	}
}

// scribble: all bytes, those in the room behind too, are others.
func scribble(b []byte) {
	b = b[:cap(b)]
	for i := range b {
		b[i] ^= 0xa5
	}
}

func TestAnswersAreNewMemory(t *testing.T) {
	content := much(100)
	b := bytes.Frame(content)
	scribble(content)
	unframes(t, "a frame whose content was changed behind the call", b, much(100))

	got, _, _ := bytes.Unframe(b)
	scribble(got)
	unframes(t, "a frame whose content was handed out", b, much(100))

	got, _, _ = bytes.Unframe(b)
	scribble(b)
	same(t, "the content behind a change of the frame", string(got), string(much(100)))
}

func TestReadsKeepNothing(t *testing.T) {
	for _, x := range books() {
		b := bytes.Book(x)
		got, _ := bytes.ReadBook(b)
		scribble(b)
		same(t, "ReadBook behind a change of the bytes", got, x)
	}
	for _, l := range groups() {
		b := bytes.Ops(l)
		got, _ := bytes.ReadOps(b)
		scribble(b)
		same(t, "ReadOps behind a change of the bytes", got, l)
	}
	b := bytes.Ints(ends())
	got, _ := bytes.ReadInts(b)
	scribble(b)
	same(t, "ReadInts behind a change of the bytes", got, ends())
}

func TestWritersKeepNothing(t *testing.T) {
	x := books()[2]
	b := bytes.Book(x)
	x.Sheets[0].Cells[0].Text = "another"
	x.Sheets[0].Name = "another"
	same(t, "Book behind a change", b, stand(books()[2]))

	l := groups()[4]
	b = bytes.Ops(l)
	l[0].Cells[0].Row++
	l[1] = fullOp()
	same(t, "Ops behind a change", b, stand(groups()[4]))

	ints := ends()
	b = bytes.Ints(ints)
	ints[0]++
	same(t, "Ints behind a change", b, stand(ends()))
	scribble(b)
	same(t, "Ints once more", bytes.Ints(ends()), stand(ends()))
}

// What is written into the room behind one list of an answer is not seen in another one.
func TestListsShareNothing(t *testing.T) {
	cells := func(n int) []api.Cell {
		l := make([]api.Cell, n)
		for i := range l {
			l[i] = api.Cell{Row: i, Col: n, Text: "t"}
		}
		return l
	}
	x := api.Book{Names: make([]api.Name, 3), Links: make([]api.Link, 3)}
	ops := make([]api.Op, 0)
	for n := range 9 {
		x.Sheets = append(x.Sheets, api.Sheet{Name: "s", Cells: cells(n)})
		ops = append(ops, api.Op{Kind: n, Cells: cells(n)})
	}
	book, _ := bytes.ReadBook(bytes.Book(x))
	for i := range book.Sheets {
		l := book.Sheets[i].Cells
		l = l[:cap(l)]
		clear(l[i:])
		same(t, "the book behind what was written into a list's room", book, x)
	}
	got, _ := bytes.ReadOps(bytes.Ops(ops))
	for i := range got {
		l := got[i].Cells
		l = l[:cap(l)]
		clear(l[i:])
		same(t, "the changes behind what was written into a list's room", got, ops)
	}
}

func TestNilIsEmpty(t *testing.T) {
	same(t, "Sum", bytes.Sum([]byte{}), bytes.Sum(nil))
	same(t, "Frame", bytes.Frame([]byte{}), bytes.Frame(nil))
	same(t, "Ops", bytes.Ops([]api.Op{}), bytes.Ops(nil))
	same(t, "Ints", bytes.Ints([]int{}), bytes.Ints(nil))
	same(t, "Book", bytes.Book(api.Book{Sheets: []api.Sheet{}, Names: []api.Name{}, Links: []api.Link{}}), bytes.Book(api.Book{}))
	same(t, "Book of an empty sheet", bytes.Book(api.Book{Sheets: []api.Sheet{{Cells: []api.Cell{}}}}), bytes.Book(api.Book{Sheets: make([]api.Sheet, 1)}))
}

// R4

func TestCallsAnswerTheSameAgain(t *testing.T) {
	for _, b := range blocks() {
		same(t, "Sum", bytes.Sum(b), bytes.Sum(b))
		for _, c := range readings() {
			x, e := c.read(b)
			y, f := c.read(append([]byte(nil), b...))
			same(t, c.name, y, x)
			same(t, c.name, f, e)
		}
	}
}

// R6, R7: all fields stand in bytes, those too that the kind does not name.

func TestKindsAreNotLookedAt(t *testing.T) {
	for kind := -1; kind < 14; kind++ {
		op := fullOp()
		op.Kind = kind
		op.Link.Value.Kind = kind
		got, e := bytes.ReadOps(bytes.Ops([]api.Op{op}))
		same(t, "error", e, api.OK)
		same(t, "ReadOps", got, []api.Op{op})
	}
}
