package shift_test

import (
	"fmt"
	"math/rand"
	"slices"
	"testing"

	"octavo/api"
	"octavo/shift"
)

// all: what every call answers, told to see.
func all(see func(what, answer string)) {
	r := rand.New(rand.NewSource(4))
	l := numbers()
	for i, s := range append(wildShifts(), goodShifts()...) {
		lo, hi := l[r.Intn(len(l))], l[r.Intn(len(l))]
		some := cells(lo, hi, hi, lo, 1, 1)
		see(fmt.Sprint(i, " ", s, lo, hi), fmt.Sprint(shift.Good(s), shift.Back(s), asked(shift.Pos(s, lo)), spanned(shift.Span(s, lo, hi)), sent(shift.Cells(s, false, some)), sent(shift.Cells(s, true, some))))
	}
}

// R1, R4: nothing panics, and the same arguments are answered the same.

func TestCallsAnswerTheSameAgain(t *testing.T) {
	was := map[string]string{}
	all(func(what, answer string) { was[what] = answer })
	all(func(what, answer string) {
		if was[what] != answer {
			t.Fatalf("%s: %s, then %s", what, was[what], answer)
		}
	})
	if len(was) < 30000 {
		t.Fatalf("only %d calls", len(was))
	}
}

// R2, R6, R7: beside a false there is nothing; and what is told lies within, also where a sum could have run over.

func TestBesideAFalseIsNothing(t *testing.T) {
	for _, s := range append(wildShifts(), goodShifts()...) {
		for _, p := range numbers() {
			to := asked(shift.Pos(s, p))
			if !to.ok {
				same(t, to, place{}, "Pos", s, p)
			} else if to.p < 1 || to.p > s.Most {
				t.Fatalf("Pos %v %d: %d", s, p, to.p)
			}
			x := spanned(shift.Span(s, 1, p))
			if !x.ok {
				same(t, x, span{}, "Span", s, 1, p)
			} else if x.lo < 1 || x.lo > x.hi || x.hi > s.Most {
				t.Fatalf("Span %v 1 %d: %v", s, p, x)
			}
			if got := sent(shift.Cells(s, false, cells(1, 1, p, 1))); !got.ok {
				refuses(t, got, "Cells", s, p)
			}
		}
	}
}

// behind: what lies in the room behind a list's end.
var behind = api.Cell{Row: 9, Col: 9, Text: "behind"}

// roomy: l with room behind its end, which is filled.
func roomy(l []api.Cell) []api.Cell {
	with := append(make([]api.Cell, 0, len(l)+3), l...)
	return append(with, behind, behind, behind)[:len(l)]
}

// scribble: l is written over, with its spare room.
func scribble(l []api.Cell) {
	l = l[:cap(l)]
	for i := range l {
		l[i] = api.Cell{Row: 8, Col: 8, Text: "changed"}
	}
}

// eachCells: do, with shifts and cells of all sorts.
func eachCells(do func(s shift.Shift, cols bool, l []api.Cell)) {
	r := rand.New(rand.NewSource(5))
	for _, s := range append(goodShifts(), of(3, 0, 64), shift.Shift{}) {
		for _, count := range []int{0, 1, 2, 9, 200} {
			do(s, r.Intn(2) == 0, roomy(anyCells(r, count, 1+r.Intn(max(s.Most, 1)))))
		}
	}
}

// R3: what is handed in is not changed, nor what lies behind its end.

func TestCellsChangesNothing(t *testing.T) {
	eachCells(func(s shift.Shift, cols bool, l []api.Cell) {
		was := slices.Clone(l[:cap(l)])
		shift.Cells(s, cols, l)
		same(t, slices.Equal(l[:cap(l)], was), true, "Cells", s, cols, was)
	})
}

// R3: an answer is new memory, with its spare room; what is done with it or with what was handed in is not seen in the other.

func TestAnswersAreNewMemory(t *testing.T) {
	eachCells(func(s shift.Shift, cols bool, l []api.Cell) {
		was := slices.Clone(l[:cap(l)])
		one, two, want := sent(shift.Cells(s, cols, l)), sent(shift.Cells(s, cols, l)), sent(shift.Cells(s, cols, was[:len(l)]))
		want = told{slices.Clone(want.moved), slices.Clone(want.gone), want.ok}
		scribble(two.moved)
		scribble(two.gone)
		same(t, slices.Equal(l[:cap(l)], was), true, "Cells, and its answer is changed", s, cols, was)
		answers(t, one, want, "Cells, and another answer is changed", s, cols)
		scribble(l)
		answers(t, one, want, "Cells, and what was handed in is changed", s, cols)
	})
}

// R3: the two lists of an answer share nothing, their spare room neither.

func TestListsOfAnAnswerShareNothing(t *testing.T) {
	both := 0
	eachCells(func(s shift.Shift, cols bool, l []api.Cell) {
		got, want := sent(shift.Cells(s, cols, l)), sent(shift.Cells(s, cols, l))
		scribble(got.moved)
		same(t, slices.Equal(got.gone, want.gone), true, "what goes, and what stays is changed", s, cols, l)
		got = sent(shift.Cells(s, cols, l))
		scribble(got.gone)
		same(t, slices.Equal(got.moved, want.moved), true, "what stays, and what goes is changed", s, cols, l)
		if len(want.moved) > 0 && len(want.gone) > 0 {
			both++
		}
	})
	if both < 100 {
		t.Fatalf("only %d answers of both", both)
	}
}
