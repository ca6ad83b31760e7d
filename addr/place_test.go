package addr_test

import (
	"math"
	"testing"

	"octavo/addr"
	"octavo/api"
)

// P8.3

func TestAt(t *testing.T) {
	home := api.Place{Book: "Acme", Sheet: "Jan", Row: 5, Col: 6}
	for _, r := range []struct {
		ref  api.Ref
		home api.Place
		want api.Place
	}{
		{cell(7, 2), home, api.Place{Book: "Acme", Sheet: "Jan", Row: 7, Col: 2}},
		{of("", "Feb", cell(7, 2)), home, api.Place{Book: "Acme", Sheet: "Feb", Row: 7, Col: 2}},
		{of("b", "Feb", cell(7, 2)), home, api.Place{Book: "b", Sheet: "Feb", Row: 7, Col: 2}},
		{of("Acme", "Jan", cell(7, 2)), home, api.Place{Book: "Acme", Sheet: "Jan", Row: 7, Col: 2}},
		{fixed(cell(7, 2), true, true), home, api.Place{Book: "Acme", Sheet: "Jan", Row: 7, Col: 2}},
		// A home without names.
		{cell(7, 2), api.Place{}, api.Place{Row: 7, Col: 2}},
		{of("b", "Feb", cell(1, 1)), api.Place{}, api.Place{Book: "b", Sheet: "Feb", Row: 1, Col: 1}},
		{of("", "Feb", cell(1, 1)), api.Place{Book: "Acme"}, api.Place{Book: "Acme", Sheet: "Feb", Row: 1, Col: 1}},
		{cell(1, 1), api.Place{Book: "Acme"}, api.Place{Book: "Acme", Row: 1, Col: 1}},
		{cell(1, 1), api.Place{Sheet: "Jan"}, api.Place{Sheet: "Jan", Row: 1, Col: 1}},
		// Refs that are not good are placed as they stand: each name is home's where they have none.
		{of("b", "", cell(7, 2)), home, api.Place{Book: "b", Sheet: "Jan", Row: 7, Col: 2}},
		{of("A1", " ", cell(0, -1)), home, api.Place{Book: "A1", Sheet: " ", Row: 0, Col: -1}},
		{api.Ref{}, home, api.Place{Book: "Acme", Sheet: "Jan"}},
		{cell(math.MinInt, math.MaxInt), home, api.Place{Book: "Acme", Sheet: "Jan", Row: math.MinInt, Col: math.MaxInt}},
	} {
		same(t, addr.At(r.ref, r.home), r.want, "At", r.ref, r.home)
	}
}

func TestAtOfManyRefs(t *testing.T) {
	homes := places()
	for i, r := range refs() {
		home := homes[i*37%len(homes)]
		want := api.Place{Book: r.Book, Sheet: r.Sheet, Row: r.Row, Col: r.Col}
		if r.Book == "" {
			want.Book = home.Book
		}
		if r.Sheet == "" {
			want.Sheet = home.Sheet
		}
		same(t, addr.At(r, home), want, "At", r, home)
	}
}

// TestBoxOfCorners: which of the corners stand, and in which order, does not matter.
func TestBoxOfCorners(t *testing.T) {
	want := box{2, 3, 9, 5}
	for _, r := range [][2]api.Ref{
		{cell(2, 3), cell(9, 5)}, {cell(9, 5), cell(2, 3)}, {cell(2, 5), cell(9, 3)}, {cell(9, 3), cell(2, 5)},
		// Names and fixings do not matter either.
		{of("Acme", "Jan", fixed(cell(9, 5), true, false)), fixed(cell(2, 3), false, true)}, {cell(2, 5), of("b", "", fixed(cell(9, 3), true, true))},
	} {
		same(t, boxed(addr.Box(r[0], r[1])), want, "Box", r[0], r[1])
	}
}

func TestBox(t *testing.T) {
	for _, r := range []struct {
		ref, to api.Ref
		want    box
	}{
		{cell(1, 1), cell(1, 1), box{1, 1, 1, 1}}, {cell(1, 1), cell(64, 26), box{1, 1, 64, 26}}, {cell(64, 26), cell(1, 1), box{1, 1, 64, 26}}, {cell(64, 1), cell(1, 26), box{1, 1, 64, 26}}, {cell(7, 2), cell(7, 4), box{7, 2, 7, 4}}, {cell(9, 2), cell(7, 2), box{7, 2, 9, 2}}, {cell(20, 3), cell(3, 20), box{3, 3, 20, 20}},
		{cell(0, 0), cell(0, 0), box{}}, {cell(-5, 3), cell(4, -6), box{-5, -6, 4, 3}}, {cell(math.MinInt, math.MaxInt), cell(math.MaxInt, math.MinInt), box{math.MinInt, math.MinInt, math.MaxInt, math.MaxInt}}, {cell(math.MinInt, 1), cell(math.MaxInt, 2), box{math.MinInt, 1, math.MaxInt, 2}},
	} {
		same(t, boxed(addr.Box(r.ref, r.to)), r.want, "Box", r.ref, r.to)
	}
}

func TestBoxOfManyCorners(t *testing.T) {
	order := func(a, b int) (int, int) {
		if a > b {
			return b, a
		}
		return a, b
	}
	l := refs()
	for i := range l {
		for j := i % 13; j < len(l); j += 13 {
			r1, r2 := order(l[i].Row, l[j].Row)
			c1, c2 := order(l[i].Col, l[j].Col)
			same(t, boxed(addr.Box(l[i], l[j])), box{r1, c1, r2, c2}, "Box", l[i], l[j])
		}
	}
}

func TestCmp(t *testing.T) {
	p := func(book, sheet string, row, col int) api.Place {
		return api.Place{Book: book, Sheet: sheet, Row: row, Col: col}
	}
	for _, r := range []struct{ less, more api.Place }{
		// One part alone differs.
		{p("a", "s", 1, 1), p("b", "s", 1, 1)}, {p("a", "s", 1, 1), p("a", "t", 1, 1)}, {p("a", "s", 1, 1), p("a", "s", 2, 1)}, {p("a", "s", 1, 1), p("a", "s", 1, 2)},
		{p("", "s", 1, 1), p("a", "s", 1, 1)}, {p("a", "", 1, 1), p("a", "s", 1, 1)}, {p("a", "s", -1, 1), p("a", "s", 0, 1)}, {p("a", "s", 1, -1), p("a", "s", 1, 0)},
		// A part ahead counts more than all behind it.
		{p("a", "t", 9, 9), p("b", "s", 1, 1)}, {p("a", "s", 9, 9), p("a", "t", 1, 1)}, {p("a", "s", 1, 9), p("a", "s", 2, 1)}, {p("a", "z", 1, 1), p("b", "a", 1, 1)},
		// By bytes, not by letters, and not by length.
		{p("Z", "s", 1, 1), p("a", "s", 1, 1)}, {p("a", "Z", 1, 1), p("a", "a", 1, 1)}, {p("a", "s", 1, 1), p("aa", "s", 1, 1)}, {p("aa", "s", 1, 1), p("b", "s", 1, 1)}, {p("a", "s9", 1, 1), p("a", "s_", 1, 1)}, {p("a", "s10", 1, 1), p("a", "s2", 1, 1)}, {p("a", "é", 1, 1), p("a", "\xff", 1, 1)}, {p("a", "z", 1, 1), p("a", "é", 1, 1)},
		// Book and sheet are not taken as one text.
		{p("a", "bc", 1, 1), p("ab", "c", 1, 1)}, {p("a", "z", 1, 1), p("ab", "", 1, 1)},
		// No difference wraps.
		{p("a", "s", math.MinInt, 1), p("a", "s", math.MaxInt, 1)}, {p("a", "s", 1, math.MinInt), p("a", "s", 1, math.MaxInt)}, {p("a", "s", -2, 1), p("a", "s", math.MaxInt, 1)}, {p("a", "s", 1, math.MinInt), p("a", "s", 1, 1)},
		{p("a", "s", 2, 1), p("a", "s", 10, 1)}, {p("a", "s", 1, 2), p("a", "s", 1, 10)},
	} {
		same(t, addr.Cmp(r.less, r.more), -1, "Cmp", r.less, r.more)
		same(t, addr.Cmp(r.more, r.less), 1, "Cmp", r.more, r.less)
		same(t, addr.Cmp(r.less, r.less), 0, "Cmp", r.less, r.less)
	}
	same(t, addr.Cmp(api.Place{}, api.Place{}), 0, "Cmp of nothing")
}

// TestCmpOfManyPlaces: the list rises, so that Cmp is the order of its numbers.
func TestCmpOfManyPlaces(t *testing.T) {
	l := places()
	for i := range l {
		for j := range l {
			want := 0
			if i < j {
				want = -1
			} else if i > j {
				want = 1
			}
			same(t, addr.Cmp(l[i], l[j]), want, "Cmp", l[i], l[j])
		}
	}
}
