package journal_test

import (
	"math"
	"testing"

	"octavo/api"
	"octavo/journal"
)

// P4.1

func TestBeginByteByByte(t *testing.T) {
	same(t, "Begin(5)", string(journal.Begin(5)), "\x03\x00\x00\x00"+"\x04\x0e\x0a"+"\xaf\xa9\xdb\xd5")
	same(t, "Begin(-1)", string(journal.Begin(-1))[:7], "\x03\x00\x00\x00"+"\x04\x0e\x01")
	same(t, "Begin(64)", string(journal.Begin(64))[:8], "\x04\x00\x00\x00"+"\x04\x0e\x80\x01")
}

func TestBegin(t *testing.T) {
	for _, id := range ids() {
		same(t, "Begin", string(journal.Begin(id)), string(head(7, id)))
	}
	for id := -300; id < 300; id++ {
		same(t, "Begin", string(journal.Begin(id)), string(head(7, id)))
	}
}

func TestGroupByteByByte(t *testing.T) {
	l := []api.Op{{Kind: 1, Sheet: "S", Row: 2, Col: -3, Text: "=A1"}}
	content := "\x02\x02" + // one number, 1
		"\x02" + // one change
		"\x02\x00\x02S\x00\x00\x04\x05\x06=A1" +
		"\x00\x00\x00" + // its name
		"\x00\x00\x00\x00\x00\x00\x00" + // its link
		"\x00" // its cells
	grouped(t, "a change", 1, l, framed([]byte(content)))
}

func TestGroup(t *testing.T) {
	for _, seq := range []int{1, 2, 3, 7, 62, 63, 64, 65, 127, 128, 8191, 8192, 1 << 31, 1<<32 - 1, 1 << 62, math.MaxInt - 1, math.MaxInt} {
		for _, l := range changes() {
			grouped(t, "changes", seq, l, groupOf(seq, l))
		}
	}
}

func TestGroupOfWrongNumbers(t *testing.T) {
	for _, seq := range []int{0, -1, -2, -64, -1 << 32, math.MinInt + 1, math.MinInt} {
		for _, l := range changes() {
			ungrouped(t, "changes", seq, l, api.ErrArg)
		}
	}
}

func TestGroupOfNoChanges(t *testing.T) {
	for _, seq := range []int{1, 2, 100, math.MaxInt, 0, -1, math.MinInt} {
		ungrouped(t, "nil", seq, nil, api.ErrArg)
		ungrouped(t, "an empty list", seq, []api.Op{}, api.ErrArg)
		ungrouped(t, "an empty list with room", seq, changes()[3][:0], api.ErrArg)
	}
}

func TestGroupOfMuch(t *testing.T) {
	for _, seq := range []int{1, 2, 63, 64, math.MaxInt} {
		for _, less := range []int{2, 1, 0} {
			l := long(t, seq, api.MaxFrame-less)
			grouped(t, "a long change", seq, l, groupOf(seq, l))
		}
		for _, beyond := range []int{1, 2, 8, api.MaxFrame, 1 << 22} {
			ungrouped(t, "a change that is too long", seq, long(t, seq, api.MaxFrame+beyond), api.ErrRange)
		}
	}
}

// The number's bytes are counted with the changes': the same changes fit with one number, and do not with a longer one.
func TestGroupOfMuchForItsNumber(t *testing.T) {
	l := long(t, 63, api.MaxFrame)
	grouped(t, "changes that just fit", 1, l, groupOf(1, l))
	grouped(t, "changes that just fit", 63, l, groupOf(63, l))
	ungrouped(t, "changes that fit with a shorter number", 64, l, api.ErrRange)
	ungrouped(t, "changes that fit with a shorter number", math.MaxInt, l, api.ErrRange)
}

func TestGroupOfManyChanges(t *testing.T) {
	// A change without anything has 19 bytes.
	most := (api.MaxFrame - 2 - 2) / 19
	l := make([]api.Op, most+2)
	grouped(t, "many changes", 1, l[:most-1], groupOf(1, l[:most-1]))
	ungrouped(t, "too many changes", 1, l, api.ErrRange)
	ungrouped(t, "far too many changes", 1, make([]api.Op, 200000), api.ErrRange)
	l[most/2].Cells = make([]api.Cell, api.MaxFrame)
	ungrouped(t, "too many cells", 1, l[:most/2+1], api.ErrRange)
}

// R2

func TestGroupOfTwoErrors(t *testing.T) {
	for _, seq := range []int{0, -1, math.MinInt} {
		ungrouped(t, "a wrong number, of too much", seq, long(t, 1, api.MaxFrame+1), api.ErrArg)
	}
}
