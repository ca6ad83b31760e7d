package shift_test

import (
	"math/rand"
	"slices"
	"testing"

	"octavo/api"
	"octavo/shift"
)

// P13.4

func TestPosKeepsTheOrder(t *testing.T) {
	for _, s := range goodShifts() {
		last := 0
		for p := 1; p <= s.Most; p++ {
			to := asked(shift.Pos(s, p))
			if !to.ok {
				continue
			}
			if to.p <= last || to.p > s.Most {
				t.Fatalf("Pos %v %d: %d, behind %d", s, p, to.p, last)
			}
			last = to.p
		}
	}
}

func TestPosOfBackOfPosIsTheLine(t *testing.T) {
	found := 0
	for _, s := range goodShifts() {
		back := shift.Back(s)
		for p := 1; p <= s.Most; p++ {
			if to, ok := shift.Pos(s, p); ok {
				same(t, asked(shift.Pos(back, to)), place{p, true}, "Pos of Back of Pos", s, p)
				found++
			}
		}
	}
	if found < 10000 {
		t.Fatalf("only %d lines", found)
	}
}

// The lines that are inserted are just those that Back takes away; and no line comes to stand there.
func TestBackTakesWhatWasInserted(t *testing.T) {
	for _, s := range goodShifts() {
		if s.N < 0 {
			continue
		}
		for p := s.At; p < s.At+s.N; p++ {
			same(t, asked(shift.Pos(shift.Back(s), p)), place{}, "Pos of Back", s, p)
		}
		for p := 1; p <= s.Most; p++ {
			if to, ok := shift.Pos(s, p); ok && s.At <= to && to < s.At+s.N {
				t.Fatalf("Pos %v %d: %d, which is inserted", s, p, to)
			}
		}
	}
}

// Cells go where Pos says, and Cells of Back brings them back.
func TestCellsThereAndBack(t *testing.T) {
	r := rand.New(rand.NewSource(3))
	done := 0
	for _, s := range goodShifts() {
		for range 4 {
			cols := r.Intn(2) == 0
			l := anyCells(r, 1+r.Intn(9), 1+r.Intn(s.Most))
			moved, gone, ok := shift.Cells(s, cols, l)
			if !ok {
				continue
			}
			same(t, len(moved)+len(gone), len(l), "Cells", s, cols, l)
			stayed := slices.DeleteFunc(slices.Clone(l), func(c api.Cell) bool { return slices.Contains(gone, c) })
			answers(t, sent(shift.Cells(shift.Back(s), cols, moved)), told{stayed, nil, true}, "Cells of Back", s, cols, l)
			done++
		}
	}
	if done < 500 {
		t.Fatalf("only %d lists", done)
	}
}

// A span that is inserted into and then taken from again is as it was, if its upper end has room.
func TestSpanThereAndBack(t *testing.T) {
	for _, s := range smallShifts() {
		if s.N < 0 {
			continue
		}
		for lo := 1; lo <= s.Most; lo++ {
			for hi := lo; hi <= s.Most; hi++ {
				if _, ok := shift.Pos(s, hi); ok {
					a, b, ok := shift.Span(s, lo, hi)
					same(t, ok, true, "Span", s, lo, hi)
					same(t, spanned(shift.Span(shift.Back(s), a, b)), span{lo, hi, true}, "Span of Back", s, lo, hi)
				}
			}
		}
	}
}
