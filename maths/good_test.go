package maths_test

import (
	"slices"
	"testing"

	"octavo/api"
	"octavo/maths"
)

// What an argument is: Good and One.

// judged: do Good and One answer so? want is One's value; nil: the area is good and has several.
func judged(t *testing.T, a api.Area, good bool, want any) {
	t.Helper()
	for _, many := range []bool{false, true} {
		a.Many = many
		same(t, maths.Good(a), good, "Good", a.Rows, a.Cols, len(a.L))
		same(t, maths.One(a), of(want), "One", a.Rows, a.Cols, len(a.L))
	}
}

func TestOfOneValue(t *testing.T) {
	for _, v := range values() {
		a := single(v)
		if fine(v) {
			judged(t, a, true, v)
		} else {
			judged(t, a, false, "#VALUE!")
		}
	}
	judged(t, single(of(1.5)), true, 1.5)
	judged(t, single(of("x")), true, "x")
	judged(t, single(of(true)), true, true)
	judged(t, single(of("#N/A")), true, "#N/A")
	judged(t, single(blank), true, nil)
	judged(t, single(number(most+1)), false, "#VALUE!")
	judged(t, single(api.Value{Kind: 5}), false, "#VALUE!")
	judged(t, single(bad(9)), false, "#VALUE!")
}

func TestOfSides(t *testing.T) {
	one := of(1)
	for _, a := range []api.Area{area(1, 2, one, one), area(2, 1, one, one), area(2, 2, one, one, one, one), area(3, 1, blank, one, of("#REF!")), area(2, 3, one, one, one, one, one, one), area(1, 2, of("#N/A"), of("#REF!"))} {
		judged(t, a, true, "#VALUE!")
	}
	for _, a := range []api.Area{
		{}, area(1, 1), area(1, 2), area(0, 0), area(0, 1), area(1, 0), area(0, 0, one), area(0, 1, one), area(1, 0, one), area(-1, 1, one), area(1, -1, one), area(-1, -1, one), area(-1, -2, one, one), area(-2, -2, one, one, one, one),
		area(1, 1, one, one), area(1, 2, one), area(2, 1, one), area(1, 2, one, one, one), area(2, 2, one), area(2, 2, one, one), area(2, 2, one, one, one), area(2, 2, one, one, one, one, one), area(1, 3, one, one), area(3, 1, one, one, one, one),
	} {
		judged(t, a, false, "#VALUE!")
	}
	for _, a := range odd() {
		judged(t, a, may(a), "#VALUE!")
	}
	judged(t, area(2, 2, one), false, "#VALUE!")
}

func TestOfManyValues(t *testing.T) {
	l := slices.Repeat([]api.Value{of(1)}, 4097*4)
	for _, r := range []struct {
		rows, cols int
		good       bool
	}{
		{4096, 1, true}, {1, 4096, true}, {64, 64, true}, {64, 26, true}, {2, 4096, true}, {4096, 2, true}, {65, 64, true}, {64, 65, true}, {4, 4096, true},
		{4097, 1, false}, {1, 4097, false}, {4097, 2, false}, {2, 4097, false}, {4098, 1, false}, {1, 4098, false}, {4097 * 4, 1, false}, {1, 4097 * 4, false}, {8192, 2, false}, {2, 8192, false},
	} {
		judged(t, area(r.rows, r.cols, l[:r.rows*r.cols]...), r.good, "#VALUE!")
		judged(t, area(r.rows, r.cols, l[:r.rows*r.cols-1]...), false, "#VALUE!")
		if n := r.rows*r.cols + 1; n <= len(l) {
			judged(t, area(r.rows, r.cols, l[:n]...), false, "#VALUE!")
		}
	}
}

// A bad value at any place.
func TestOfBadValues(t *testing.T) {
	for _, n := range []int{1, 2, 3, 12, 100} {
		for i := range n {
			for _, v := range values() {
				l := slices.Repeat([]api.Value{of(1)}, n)
				l[i] = v
				a := area(1, n, l...)
				same(t, maths.Good(a), fine(v), "Good", i, n, v)
				if n > 1 || !fine(v) {
					same(t, maths.One(a), of("#VALUE!"), "One", i, n, v)
				}
			}
		}
	}
}
