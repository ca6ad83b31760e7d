package shift_test

import (
	"fmt"
	"math"
	"math/rand"
	"slices"
	"testing"

	"octavo/api"
	"octavo/shift"
)

// cells: of rows and columns in turn, each with a text of its own.
func cells(at ...int) []api.Cell {
	var l []api.Cell
	for i := 0; i+1 < len(at); i += 2 {
		l = append(l, api.Cell{Row: at[i], Col: at[i+1], Text: fmt.Sprint("c", i/2)})
	}
	return l
}

// pick: those cells of l, at other rows and columns.
func pick(l []api.Cell, rows ...[3]int) []api.Cell {
	var some []api.Cell
	for _, x := range rows {
		some = append(some, api.Cell{Row: x[1], Col: x[2], Text: l[x[0]].Text})
	}
	return some
}

// refuses: has Cells answered false, and nothing beside it?
func refuses(t *testing.T, got told, what string, args ...any) {
	if got.ok || len(got.moved) > 0 || len(got.gone) > 0 {
		t.Helper()
		t.Fatalf("%s%v: %v, want false alone", what, args, got)
	}
}

// answers: has Cells answered so?
func answers(t *testing.T, got, want told, what string, args ...any) {
	if got.ok != want.ok || !slices.Equal(got.moved, want.moved) || !slices.Equal(got.gone, want.gone) {
		t.Helper()
		t.Fatalf("%s%v: %v, want %v", what, args, got, want)
	}
}

// P13.3: Cells

func TestCellsOfNone(t *testing.T) {
	for _, s := range goodShifts() {
		for _, cols := range []bool{false, true} {
			answers(t, sent(shift.Cells(s, cols, nil)), told{ok: true}, "Cells", s, cols)
			answers(t, sent(shift.Cells(s, cols, []api.Cell{})), told{ok: true}, "Cells", s, cols)
		}
	}
}

func TestCellsOfInserted(t *testing.T) {
	l := cells(1, 1, 2, 26, 3, 1, 3, 5, 24, 2)
	want := pick(l, [3]int{0, 1, 1}, [3]int{1, 2, 26}, [3]int{2, 5, 1}, [3]int{3, 5, 5}, [3]int{4, 26, 2})
	answers(t, sent(shift.Cells(of(3, 2, 64), false, l)), told{want, nil, true}, "Cells")
	want = pick(l, [3]int{0, 1, 1}, [3]int{1, 2, 64}, [3]int{2, 3, 1}, [3]int{3, 3, 43}, [3]int{4, 24, 2})
	answers(t, sent(shift.Cells(of(3, 38, 64), true, l)), told{want, nil, true}, "Cells")
}

func TestCellsOfTakenAway(t *testing.T) {
	l := cells(1, 4, 2, 26, 3, 1, 4, 5, 5, 2, 64, 3)
	moved := pick(l, [3]int{0, 1, 4}, [3]int{1, 2, 26}, [3]int{4, 3, 2}, [3]int{5, 62, 3})
	gone := pick(l, [3]int{2, 3, 1}, [3]int{3, 4, 5})
	answers(t, sent(shift.Cells(of(3, -2, 64), false, l)), told{moved, gone, true}, "Cells")
	moved = pick(l, [3]int{1, 2, 24}, [3]int{2, 3, 1}, [3]int{3, 4, 3}, [3]int{4, 5, 2})
	gone = pick(l, [3]int{0, 1, 4}, [3]int{5, 64, 3})
	answers(t, sent(shift.Cells(of(3, -2, 26), true, l)), told{moved, gone, true}, "Cells")
	answers(t, sent(shift.Cells(of(1, -64, 64), false, l)), told{nil, l, true}, "Cells")
	answers(t, sent(shift.Cells(of(1, -26, 26), true, l)), told{nil, l, true}, "Cells")
}

func TestCellsOfOne(t *testing.T) {
	for _, s := range goodShifts() {
		g := gridOf(s)
		for _, p := range edges(s) {
			for _, cols := range []bool{false, true} {
				for _, l := range [][]api.Cell{cells(p, 7), cells(7, p), cells(p, p)} {
					answers(t, sent(shift.Cells(s, cols, l)), g.cells(cols, l), "Cells", s, cols, l)
				}
			}
		}
	}
}

// One cell that would stand beyond Most is enough, wherever it stands in the list; what the last line that has room holds is none.
func TestCellsBeyondMost(t *testing.T) {
	rows, cols := of(3, 2, 64), of(3, 2, 26)
	for i := range 4 {
		l := cells(1, 1, 2, 2, 62, 24)
		answers(t, sent(shift.Cells(rows, false, l)), told{pick(l, [3]int{0, 1, 1}, [3]int{1, 2, 2}, [3]int{2, 64, 24}), nil, true}, "Cells", l)
		answers(t, sent(shift.Cells(cols, true, l)), told{pick(l, [3]int{0, 1, 1}, [3]int{1, 2, 2}, [3]int{2, 62, 26}), nil, true}, "Cells", l)
		for _, p := range []int{63, 64} {
			refuses(t, sent(shift.Cells(rows, false, slices.Insert(cells(1, 1, 2, 2, 62, 24), i, cells(p, 1)...))), "Cells", i, p)
		}
		for _, p := range []int{25, 26} {
			refuses(t, sent(shift.Cells(cols, true, slices.Insert(cells(1, 1, 2, 2, 62, 24), i, cells(1, p)...))), "Cells", i, p)
		}
	}
}

// A cell in no line of the shift neither goes nor has a place behind it.
func TestCellsOutside(t *testing.T) {
	for _, s := range []shift.Shift{of(3, 2, 26), of(3, -2, 26), of(1, -26, 26), of(26, -1, 26), of(26, 1, 26)} {
		for _, p := range []int{0, -1, 27, 28, 29, math.MaxInt, math.MaxInt - 1, math.MinInt, math.MinInt + 1} {
			refuses(t, sent(shift.Cells(s, false, cells(1, 1, p, 1, 2, 1))), "Cells", s, p)
			refuses(t, sent(shift.Cells(s, true, cells(1, 1, 1, p, 1, 2))), "Cells", s, p)
		}
	}
}

// What is not shifted is not looked at: the other number, and the text; nor in which order cells stand, or whether two are alike.
func TestCellsOfAnySort(t *testing.T) {
	l := []api.Cell{{Row: 9, Col: math.MaxInt}, {Row: 1, Col: math.MinInt, Text: "=1+"}, {Row: 3, Col: 0, Text: "\xff\x00"}, {Row: 9, Col: 1, Text: "x"}, {Row: 9, Col: 1, Text: "x"}, {Row: 4, Col: -5, Text: "x"}, {Row: 3, Col: 0}}
	moved := []api.Cell{{Row: 7, Col: math.MaxInt}, {Row: 1, Col: math.MinInt, Text: "=1+"}, {Row: 7, Col: 1, Text: "x"}, {Row: 7, Col: 1, Text: "x"}}
	gone := []api.Cell{{Row: 3, Col: 0, Text: "\xff\x00"}, {Row: 4, Col: -5, Text: "x"}, {Row: 3, Col: 0}}
	answers(t, sent(shift.Cells(of(3, -2, 64), false, l)), told{moved, gone, true}, "Cells")
	for _, x := range [][]api.Cell{l, moved, gone} {
		for i, c := range x {
			x[i].Row, x[i].Col = c.Col, c.Row
		}
	}
	answers(t, sent(shift.Cells(of(3, -2, 64), true, l)), told{moved, gone, true}, "Cells")
}

// anyCells: in lines 1 to most, in any order.
func anyCells(r *rand.Rand, count, most int) []api.Cell {
	var l []api.Cell
	for i := range count {
		l = append(l, api.Cell{Row: 1 + r.Intn(most), Col: 1 + r.Intn(most), Text: fmt.Sprint("c", i)})
	}
	return l
}

func TestCellsOfMany(t *testing.T) {
	r := rand.New(rand.NewSource(2))
	fine, gone, refused := 0, 0, 0
	for _, s := range goodShifts() {
		g := gridOf(s)
		for _, count := range []int{1, 2, 3, 9, 200} {
			for _, cols := range []bool{false, true} {
				l := anyCells(r, count, 1+r.Intn(s.Most))
				want := g.cells(cols, l)
				answers(t, sent(shift.Cells(s, cols, l)), want, "Cells", s, cols, l)
				switch {
				case !want.ok:
					refused++
				case len(want.gone) > 0:
					gone++
				default:
					fine++
				}
			}
		}
	}
	if min(fine, gone, refused) < 200 {
		t.Fatalf("only %d, %d and %d", fine, gone, refused)
	}
}
