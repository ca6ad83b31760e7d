package shift_test

import (
	"math"
	"testing"

	"octavo/shift"
)

// P13.2

// spans: has Span of s answered so? Rows are lo, hi, and the answer's; zeros are false.
func spans(t *testing.T, s shift.Shift, rows ...[4]int) {
	t.Helper()
	for _, x := range rows {
		same(t, spanned(shift.Span(s, x[0], x[1])), span{x[2], x[3], x[2] > 0}, "Span", s, x[0], x[1])
	}
}

func TestSpanOfInserted(t *testing.T) {
	spans(t, of(3, 2, 64),
		[4]int{1, 3, 1, 5}, [4]int{1, 2, 1, 2}, [4]int{1, 1, 1, 1}, [4]int{2, 2, 2, 2}, // ahead of At, and around it
		[4]int{3, 3, 5, 5}, [4]int{3, 4, 5, 6}, [4]int{4, 9, 6, 11}, [4]int{2, 3, 2, 5}, // from At on
		[4]int{62, 62, 64, 64}, [4]int{1, 62, 1, 64}, [4]int{3, 62, 5, 64}, // to the last that has room
		[4]int{1, 63, 1, 64}, [4]int{1, 64, 1, 64}, [4]int{3, 64, 5, 64}, [4]int{62, 63, 64, 64}, [4]int{62, 64, 64, 64}, [4]int{2, 64, 2, 64}, // the upper end is pushed off
		[4]int{63, 63, 0, 0}, [4]int{63, 64, 0, 0}, [4]int{64, 64, 0, 0}) // both are
	spans(t, of(1, 64, 64), [4]int{1, 1, 0, 0}, [4]int{1, 64, 0, 0}, [4]int{64, 64, 0, 0})
	spans(t, of(1, 63, 64), [4]int{1, 1, 64, 64}, [4]int{1, 64, 64, 64}, [4]int{2, 64, 0, 0})
	spans(t, of(64, 1, 64), [4]int{1, 64, 1, 64}, [4]int{63, 63, 63, 63}, [4]int{63, 64, 63, 64}, [4]int{64, 64, 0, 0})
	spans(t, of(1, 1, 1), [4]int{1, 1, 0, 0})
	spans(t, of(2, 999, 1000), [4]int{1, 1, 1, 1}, [4]int{1, 2, 1, 1000}, [4]int{1, 1000, 1, 1000}, [4]int{2, 1000, 0, 0})
}

func TestSpanOfTakenAway(t *testing.T) {
	spans(t, of(3, -2, 64),
		[4]int{2, 4, 2, 2}, [4]int{2, 3, 2, 2}, [4]int{1, 4, 1, 2}, // ends among those that go
		[4]int{3, 4, 0, 0}, [4]int{3, 3, 0, 0}, [4]int{4, 4, 0, 0}, // lies among them
		[4]int{1, 1, 1, 1}, [4]int{1, 2, 1, 2}, [4]int{2, 2, 2, 2}, // ahead of At
		[4]int{5, 5, 3, 3}, [4]int{5, 64, 3, 62}, [4]int{64, 64, 62, 62}, [4]int{6, 9, 4, 7}, // behind them
		[4]int{1, 64, 1, 62}, [4]int{2, 5, 2, 3}, [4]int{1, 9, 1, 7}, // around them
		[4]int{3, 5, 3, 3}, [4]int{4, 5, 3, 3}, [4]int{3, 64, 3, 62}, [4]int{4, 9, 3, 7}) // begins among them
	spans(t, of(1, -64, 64), [4]int{1, 1, 0, 0}, [4]int{1, 64, 0, 0}, [4]int{64, 64, 0, 0})
	spans(t, of(1, -63, 64), [4]int{1, 64, 1, 1}, [4]int{1, 63, 0, 0}, [4]int{64, 64, 1, 1})
	spans(t, of(1, -1, 64), [4]int{1, 1, 0, 0}, [4]int{1, 2, 1, 1}, [4]int{1, 64, 1, 63})
	spans(t, of(64, -1, 64), [4]int{1, 64, 1, 63}, [4]int{63, 64, 63, 63}, [4]int{64, 64, 0, 0}, [4]int{63, 63, 63, 63})
	spans(t, of(3, -62, 64), [4]int{1, 64, 1, 2}, [4]int{2, 3, 2, 2}, [4]int{3, 64, 0, 0})
	spans(t, of(1, -1, 1), [4]int{1, 1, 0, 0})
	spans(t, of(2, -999, 1000), [4]int{1, 1000, 1, 1}, [4]int{2, 1000, 0, 0})
}

func TestSpanOfLinesOutside(t *testing.T) {
	for _, s := range []shift.Shift{of(3, 2, 64), of(3, -2, 64), of(1, 64, 64), of(1, -1, 64), of(64, 1, 64), of(64, -1, 64)} {
		spans(t, s, [4]int{0, 0}, [4]int{0, 1}, [4]int{0, 64}, [4]int{-1, 2}, [4]int{1, 65}, [4]int{2, 66}, [4]int{65, 65}, [4]int{0, 65}, [4]int{65, 66})
		spans(t, s, [4]int{2, 1}, [4]int{4, 1}, [4]int{5, 4}, [4]int{64, 1}, [4]int{64, 63}, [4]int{1, 0}, [4]int{65, 1}, [4]int{64, 0})
		spans(t, s, [4]int{math.MinInt, math.MaxInt}, [4]int{1, math.MaxInt}, [4]int{math.MinInt, 1}, [4]int{math.MaxInt, math.MaxInt}, [4]int{math.MinInt, math.MinInt}, [4]int{math.MaxInt, math.MinInt}, [4]int{math.MaxInt - 1, math.MaxInt}, [4]int{math.MaxInt, 1}, [4]int{1, math.MinInt})
	}
}

func TestSpanOfAllLines(t *testing.T) {
	for _, s := range smallShifts() {
		g := gridOf(s)
		for lo := -1; lo <= s.Most+2; lo++ {
			for hi := -1; hi <= s.Most+2; hi++ {
				same(t, spanned(shift.Span(s, lo, hi)), g.span(lo, hi), "Span", s, lo, hi)
			}
		}
	}
	for _, s := range greatShifts() {
		g := gridOf(s)
		for _, lo := range edges(s) {
			for _, hi := range edges(s) {
				same(t, spanned(shift.Span(s, lo, hi)), g.span(lo, hi), "Span", s, lo, hi)
			}
		}
	}
}

// Of one line that is found again Span tells what Pos does.
func TestSpanOfOneLine(t *testing.T) {
	for _, s := range goodShifts() {
		for p := 1; p <= s.Most; p++ {
			to := asked(shift.Pos(s, p))
			same(t, spanned(shift.Span(s, p, p)), span{to.p, to.p, to.ok}, "Span", s, p, p)
		}
	}
}
