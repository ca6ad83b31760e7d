package shift_test

import (
	"math"
	"testing"

	"octavo/shift"
)

// P13.1: Good

func TestGood(t *testing.T) {
	for _, s := range []shift.Shift{of(1, 1, 1), of(1, -1, 1), of(1, 1000, 1000), of(1, -1000, 1000), of(1000, 1, 1000), of(1000, -1, 1000), of(999, 2, 1000), of(999, -2, 1000), of(3, 2, 64), of(3, -2, 64), of(3, 62, 64), of(3, -62, 64), of(64, 1, 64), of(26, -1, 26)} {
		same(t, shift.Good(s), true, "Good", s)
	}
}

func TestNotGood(t *testing.T) {
	bad := []shift.Shift{
		{},
		of(1, 1, 0), of(0, 1, 0), of(1, 0, 0), of(1, 1, -1), of(-1, 1, -1), of(1, 1, 1001), of(1001, 1, 1001), of(1, -1, 1001), of(1, 1, math.MaxInt), of(1, -1, math.MaxInt), of(1, 1, math.MinInt),
		of(0, 1, 64), of(0, -1, 64), of(-1, 1, 64), of(65, 1, 64), of(65, -1, 64), of(65, 0, 64), of(66, -1, 64), of(1001, 1, 1000), of(math.MaxInt, 1, 64), of(math.MaxInt, -1, 64), of(math.MinInt, 1, 64), of(math.MinInt, -1, 64),
		of(3, 0, 64), of(1, 0, 1), of(3, 63, 64), of(3, -63, 64), of(1, 2, 1), of(1, -2, 1), of(64, 2, 64), of(64, -2, 64), of(1, 1001, 1000), of(1, -1001, 1000),
		of(3, math.MaxInt, 64), of(3, math.MinInt, 64), of(3, math.MinInt+1, 64), of(1, math.MinInt, 1000), of(1000, math.MaxInt, 1000),
		of(math.MaxInt, math.MaxInt, math.MaxInt), of(math.MinInt, math.MinInt, math.MinInt), of(1, math.MaxInt, math.MaxInt), of(math.MaxInt, math.MinInt, math.MaxInt), of(math.MinInt, 1, math.MaxInt),
	}
	for _, s := range bad {
		same(t, shift.Good(s), false, "Good", s)
	}
}

func TestGoodOfAnyNumbers(t *testing.T) {
	good := 0
	for _, s := range wildShifts() {
		want := goodWords(s)
		same(t, shift.Good(s), want, "Good", s)
		if want {
			good++
		}
	}
	if good < 300 {
		t.Fatalf("only %d good ones", good)
	}
	for most := -1; most <= 20; most++ {
		for at := -2; at <= most+2; at++ {
			for n := -most - 2; n <= most+2; n++ {
				same(t, shift.Good(of(at, n, most)), goodWords(of(at, n, most)), "Good", at, n, most)
			}
		}
	}
}

// P13.1: of shifts that are not good all answer false, and zeros beside it.

func TestCallsOfShiftsThatAreNotGood(t *testing.T) {
	for _, s := range badShifts() {
		same(t, shift.Back(s), shift.Shift{}, "Back", s)
		for _, p := range []int{math.MinInt, -1, 0, 1, 2, 64, 1000, s.At, s.Most, math.MaxInt} {
			same(t, asked(shift.Pos(s, p)), place{}, "Pos", s, p)
			for _, hi := range []int{1, p, 64, s.Most, math.MaxInt} {
				same(t, spanned(shift.Span(s, p, hi)), span{}, "Span", s, p, hi)
			}
			for _, cols := range []bool{false, true} {
				refuses(t, sent(shift.Cells(s, cols, nil)), "Cells", s, cols)
				refuses(t, sent(shift.Cells(s, cols, cells(p, 1, 1))), "Cells", s, cols, p)
			}
		}
	}
}

// P13.1: Pos

// check: has Pos of s answered so? What is 0 is false.
func check(t *testing.T, s shift.Shift, where map[int]int) {
	t.Helper()
	for p, to := range where {
		same(t, asked(shift.Pos(s, p)), place{to, to > 0}, "Pos", s, p)
	}
}

func TestPos(t *testing.T) {
	check(t, of(3, 2, 64), map[int]int{1: 1, 2: 2, 3: 5, 4: 6, 61: 63, 62: 64, 63: 0, 64: 0})
	check(t, of(3, -2, 64), map[int]int{1: 1, 2: 2, 3: 0, 4: 0, 5: 3, 6: 4, 63: 61, 64: 62})
	check(t, of(3, 1, 64), map[int]int{2: 2, 3: 4, 63: 64, 64: 0})
	check(t, of(3, -1, 64), map[int]int{2: 2, 3: 0, 4: 3, 64: 63})
	check(t, of(1, 1, 64), map[int]int{1: 2, 63: 64, 64: 0})
	check(t, of(1, -1, 64), map[int]int{1: 0, 2: 1, 64: 63})
	check(t, of(64, 1, 64), map[int]int{1: 1, 63: 63, 64: 0})
	check(t, of(64, -1, 64), map[int]int{1: 1, 63: 63, 64: 0})
	check(t, of(3, 62, 64), map[int]int{1: 1, 2: 2, 3: 0, 4: 0, 64: 0})
	check(t, of(3, -62, 64), map[int]int{1: 1, 2: 2, 3: 0, 4: 0, 64: 0})
	check(t, of(3, 61, 64), map[int]int{2: 2, 3: 64, 4: 0})
	check(t, of(3, -61, 64), map[int]int{2: 2, 63: 0, 64: 3})
	check(t, of(1, 1, 1), map[int]int{1: 0})
	check(t, of(1, -1, 1), map[int]int{1: 0})
	check(t, of(1, 999, 1000), map[int]int{1: 1000, 2: 0, 1000: 0})
	check(t, of(1, -999, 1000), map[int]int{1: 0, 999: 0, 1000: 1})
}

func TestPosOfLinesOutside(t *testing.T) {
	for _, s := range []shift.Shift{of(3, 2, 64), of(3, -2, 64), of(1, -1, 64), of(1, 64, 64), of(64, 1, 64), of(64, -1, 64)} {
		for _, p := range []int{0, -1, -2, 65, 66, 67, 1000, math.MaxInt, math.MaxInt - 1, math.MaxInt - 2, math.MinInt, math.MinInt + 1} {
			same(t, asked(shift.Pos(s, p)), place{}, "Pos", s, p)
		}
	}
}

func TestPosOfAllLines(t *testing.T) {
	for _, s := range goodShifts() {
		g := gridOf(s)
		for p := -2; p <= s.Most+3; p++ {
			same(t, asked(shift.Pos(s, p)), g.pos(p), "Pos", s, p)
		}
		for _, p := range edges(s) {
			same(t, asked(shift.Pos(s, p)), g.pos(p), "Pos", s, p)
		}
	}
}

// P13.3: Back

func TestBack(t *testing.T) {
	same(t, shift.Back(of(3, 2, 64)), of(3, -2, 64), "Back")
	same(t, shift.Back(of(3, -2, 64)), of(3, 2, 64), "Back")
	same(t, shift.Back(of(1, 1000, 1000)), of(1, -1000, 1000), "Back")
	same(t, shift.Back(of(1, -1000, 1000)), of(1, 1000, 1000), "Back")
	same(t, shift.Back(of(3, math.MinInt, 64)), shift.Shift{}, "Back")
	same(t, shift.Back(of(3, 0, 64)), shift.Shift{}, "Back")
	for _, s := range goodShifts() {
		back := shift.Back(s)
		same(t, back, of(s.At, -s.N, s.Most), "Back", s)
		same(t, shift.Good(back), true, "Good of Back", s)
		same(t, shift.Back(back), s, "Back of Back", s)
	}
}
