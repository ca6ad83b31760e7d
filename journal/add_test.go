package journal_test

import (
	"testing"

	"octavo/api"
	"octavo/journal"
)

// P4.3

func TestAdd(t *testing.T) {
	for _, id := range ids() {
		for n := range len(changes()) {
			for _, l := range changes() {
				added(t, "a journal", logOf(id, changes()[:n]), l, groupOf(n+1, l))
			}
		}
	}
}

func TestAddOneBehindTheOther(t *testing.T) {
	b := journal.Begin(-9)
	for n, l := range many(300) {
		more, e := journal.Add(b, l)
		if e != api.OK {
			t.Fatalf("Add of group %d: %v", n+1, e)
		}
		b = append(b, more...)
		scans(t, "a journal that grows", b, -9, many(n+1), len(b))
	}
	same(t, "the journal", string(b), string(logOf(-9, many(300))))
}

func TestAddToManyGroups(t *testing.T) {
	for _, n := range []int{61, 62, 63, 64, 8190, 8191, 8192} {
		added(t, "many groups", logOf(5, many(n)), changes()[2], groupOf(n+1, changes()[2]))
	}
}

func TestAddOfNoChanges(t *testing.T) {
	for n := range 3 {
		b := logOf(5, changes()[:n])
		unadded(t, "a journal", b, nil, api.ErrArg)
		unadded(t, "a journal", b, []api.Op{}, api.ErrArg)
	}
}

func TestAddOfMuch(t *testing.T) {
	for _, n := range []int{0, 1, 62, 63} {
		b := logOf(5, many(n))
		l := long(t, n+1, api.MaxFrame)
		added(t, "a journal", b, l, groupOf(n+1, l))
		unadded(t, "a journal", b, long(t, n+1, api.MaxFrame+1), api.ErrRange)
		unadded(t, "a journal", b, long(t, n+1, 2*api.MaxFrame), api.ErrRange)
	}
	// The number that it gets is what counts: the same changes fit as group 63, and not as group 64.
	l := long(t, 63, api.MaxFrame)
	added(t, "62 groups", logOf(5, many(62)), l, groupOf(63, l))
	unadded(t, "63 groups", logOf(5, many(63)), l, api.ErrRange)
}

func TestAddToNoBytes(t *testing.T) {
	unadded(t, "nil", nil, changes()[1], api.ErrCorrupt)
	unadded(t, "no bytes", []byte{}, changes()[1], api.ErrCorrupt)
}

// R2: bytes that are no journal, or a torn one, count ahead of what is wrong with the changes.

func TestAddOfTwoErrors(t *testing.T) {
	much := long(t, 1, api.MaxFrame+1)
	torn := logOf(5, changes())
	for what, b := range map[string][]byte{
		"no bytes":          nil,
		"a part":            head(7, 5)[:5],
		"other bytes":       []byte("this is no journal"),
		"another mark":      head(8, 5),
		"a torn group":      torn[:len(torn)-1],
		"a byte behind":     join(torn, []byte{0}),
		"a group too much":  join(torn, groupOf(1, changes()[1])),
		"a header too much": join(torn, head(7, 5)),
	} {
		unadded(t, what, b, nil, api.ErrCorrupt)
		unadded(t, what, b, []api.Op{}, api.ErrCorrupt)
		unadded(t, what, b, much, api.ErrCorrupt)
	}
}
