package journal_test

import (
	"math"
	"math/rand"
	"testing"

	"octavo/api"
	"octavo/journal"
)

// blocks: bytes of all sorts.
func blocks() [][]byte {
	l := [][]byte{nil, {}, {0}, {255}, make([]byte, 5000), make([]byte, api.MaxFile+1), logOf(5, changes()), framed(make([]byte, api.MaxFrame)), framed(make([]byte, api.MaxFrame+1))}
	full := make([]byte, api.MaxFrame)
	for i := range full {
		full[i] = 255
	}
	l = append(l, full, framed(full), join(head(7, 5), framed(full)), join(head(7, 5), framed(join([]byte{2, 2}, full[2:]))))
	r := rand.New(rand.NewSource(2))
	for n := range 300 {
		b := make([]byte, n)
		r.Read(b)
		// The same bytes as a beginning, in a frame, and as a group.
		l = append(l, b, framed(b), join(head(7, 5), framed(b)), join(head(7, 5), framed(join(stand([]int{1}), b))))
	}
	return l
}

// R1

func TestNothingPanics(t *testing.T) {
	for _, id := range ids() {
		journal.Begin(id)
		for _, l := range append(changes(), nil, []api.Op{}) {
			journal.Group(id, l)
		}
	}
	for _, b := range blocks() {
		for _, id := range []int{0, 5, -1, math.MaxInt, math.MinInt} {
			journal.Scan(b, id)
		}
		for _, l := range append(changes(), nil) {
			journal.Add(b, l)
		}
	}
}

// What Scan takes of any bytes is what the writers tell of it, and Add takes just what is good to its end.
func TestScanTakesWhatIsWritten(t *testing.T) {
	r := rand.New(rand.NewSource(3))
	bad := 0
	for _, frame := range wrongFrames() {
		for range 60 {
			b := head(7, 5)
			for k := range r.Intn(5) {
				l := changes()[r.Intn(len(changes()))]
				b = append(b, groupOf(k+1+r.Intn(12)/11, l)...)
			}
			if r.Intn(2) == 0 {
				b = append(b, frame...)
			}
			x := journal.Scan(b, 5)
			same(t, "what is good", string(b[:x.Good]), string(logOf(5, x.Groups)))
			if x.Good < len(b) {
				bad++
				unadded(t, "a journal that is not good", b, changes()[1], api.ErrCorrupt)
			} else {
				added(t, "a journal that is good", b, changes()[1], groupOf(len(x.Groups)+1, changes()[1]))
			}
		}
	}
	if bad == 0 {
		t.Fatal("all journals were good")
	}
}

// scribble: all bytes, those in the room behind too, are others.
func scribble(b []byte) {
	b = b[:cap(b)]
	for i := range b {
		b[i] ^= 0xa5
	}
}

// overwrite: all changes of the lists, those in the room behind too, and their cells are others.
func overwrite(groups [][]api.Op) {
	for _, l := range groups[:cap(groups)] {
		l = l[:cap(l)]
		for i := range l {
			cells := l[i].Cells[:cap(l[i].Cells)]
			for k := range cells {
				cells[k] = api.Cell{Row: 77, Col: 78, Text: "other"}
			}
			l[i] = api.Op{Kind: 79, Text: "other"}
		}
	}
}

// R3

func TestArgumentsStay(t *testing.T) {
	for n := range len(changes()) {
		b := join(logOf(5, changes()[:n]), []byte("room behind"))
		was := string(b)
		in := b[:len(b)-11]
		room := append(changes()[n], set(98), set(99))
		l := room[:len(room)-2]
		before := show([][]api.Op{room})
		journal.Scan(in, 5)
		journal.Scan(in, 6)
		journal.Add(in, l)
		journal.Group(n+1, l)
		same(t, "the journal", string(b), was)
		same(t, "the changes", show([][]api.Op{room}), before)
	}
}

func TestWritersKeepNothing(t *testing.T) {
	for n := range len(changes()) {
		l := changes()[n]
		want := groupOf(n+1, l)
		b := logOf(5, changes()[:n])
		one, _ := journal.Group(n+1, l)
		other, _ := journal.Add(b, l)
		overwrite([][]api.Op{l})
		scribble(b)
		same(t, "Group behind a change of what it was given", string(one), string(want))
		same(t, "Add behind a change of what it was given", string(other), string(want))
		scribble(one)
		same(t, "Add behind a change of what Group told", string(other), string(want))
		scribble(other)
		grouped(t, "the changes once more", n+1, changes()[n], want)
	}
	for _, id := range ids() {
		scribble(journal.Begin(id))
		same(t, "Begin once more", string(journal.Begin(id)), string(head(7, id)))
	}
}

func TestScanKeepsNothing(t *testing.T) {
	b := logOf(5, changes())
	x := journal.Scan(b, 5)
	scribble(b)
	same(t, "the groups behind a change of the bytes", show(x.Groups), show(changes()))

	b = logOf(5, changes())
	x = journal.Scan(b, 5)
	y := journal.Scan(b, 5)
	overwrite(x.Groups)
	same(t, "the bytes behind a change of the groups", string(b), string(logOf(5, changes())))
	same(t, "the groups of a second Scan", show(y.Groups), show(changes()))
	scans(t, "the bytes once more", b, 5, changes(), len(b))
}

// What is written into one list of an answer, or into the room behind it, is not seen in another one.
func TestListsShareNothing(t *testing.T) {
	want := [][]api.Op{}
	for n := range 9 {
		want = append(want, []api.Op{})
		for k := range n + 1 {
			want[n] = append(want[n], api.Op{Kind: k, Cells: make([]api.Cell, k)})
		}
	}
	got := journal.Scan(logOf(5, want), 5).Groups
	for n := range got {
		room := got[n][:cap(got[n])]
		clear(room[len(got[n]):])
		for k := range got[n] {
			cells := got[n][k].Cells
			clear(cells[len(cells):cap(cells)])
		}
		same(t, "the groups behind what was written into one's room", show(got), show(want))
	}
	for n := range got {
		overwrite(got[n : n+1 : n+1])
		same(t, "the groups behind a change of one", show(got[n+1:]), show(want[n+1:]))
	}
}

func TestNilIsEmpty(t *testing.T) {
	full := []api.Op{{Kind: 1, Cells: []api.Cell{}}}
	grouped(t, "no cells", 1, full, groupOf(1, []api.Op{{Kind: 1}}))
	added(t, "a header", head(7, 5), full, groupOf(1, []api.Op{{Kind: 1}}))
}

// R4

func TestCallsAnswerTheSameAgain(t *testing.T) {
	for _, b := range blocks() {
		x := journal.Scan(b, 5)
		y := journal.Scan(join(b), 5)
		if x.Bound != y.Bound || x.Good != y.Good {
			t.Fatalf("Scan: %v %d, then %v %d", x.Bound, x.Good, y.Bound, y.Good)
		}
		same(t, "Scan once more", show(y.Groups), show(x.Groups))
		one, e := journal.Add(b, changes()[2])
		other, f := journal.Add(join(b), changes()[2])
		if string(one) != string(other) || e != f {
			t.Fatalf("Add: %q %v, then %q %v", one, e, other, f)
		}
	}
}

// R7: all fields of a change stand in the journal, those too that its kind does not name.

func TestKindsAreNotLookedAt(t *testing.T) {
	for kind := -1; kind < 14; kind++ {
		op := fullOp()
		op.Kind = kind
		b := logOf(5, [][]api.Op{{op}})
		scans(t, "a journal", b, 5, [][]api.Op{{op}}, len(b))
		added(t, "a journal", b, []api.Op{op}, groupOf(2, []api.Op{op}))
	}
}
