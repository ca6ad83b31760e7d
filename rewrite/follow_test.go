package rewrite_test

import (
	"math/rand"
	"testing"

	"octavo/api"
	"octavo/formula"
	"octavo/rewrite"
	"octavo/shift"
)

// P14.3

func TestWhatDoesNotNameTheSheetStays(t *testing.T) {
	r := rand.New(rand.NewSource(3))
	stayed := 0
	for range 60000 {
		n, home, c := anyTree(r, 1+r.Intn(4)), anyHome(r), anyChange(r)
		if rewrite.Names(n, home, c) {
			continue
		}
		turns(t, n, home, c, n)
		s := "= " + formula.Print(n)
		same(t, asked(rewrite.Text(s, home, c)), texts{s, false, api.OK}, "Text", s, home, c)
		stayed++
	}
	if stayed < 10000 {
		t.Fatalf("only %d stayed", stayed)
	}
}

// ordered: areas with the least corner first.
func ordered(n api.Node) api.Node {
	n = twin(n)
	if n.Kind == 3 {
		r, to := n.Ref, n.To
		n.Ref.Row, n.To.Row = min(r.Row, to.Row), max(r.Row, to.Row)
		n.Ref.Col, n.To.Col = min(r.Col, to.Col), max(r.Col, to.Col)
	}
	for i, a := range n.Args {
		n.Args[i] = ordered(a)
	}
	return n
}

// keeps: does none of the cells of n that are of the sheet fall off?
func keeps(n api.Node, home api.Place, c rewrite.Change) bool {
	if (n.Kind == 2 || n.Kind == 3) && modelOf(home, c).ours(n.Ref) {
		p := max(n.Ref.Row, n.To.Row)
		if c.Cols {
			p = max(n.Ref.Col, n.To.Col)
		}
		return p < c.Shift.At || p+c.Shift.N <= c.Shift.Most
	}
	for _, a := range n.Args {
		if !keeps(a, home, c) {
			return false
		}
	}
	return true
}

func TestInsertedAndTakenAwayAgain(t *testing.T) {
	r := rand.New(rand.NewSource(4))
	moved, ofOneLine := 0, 0
	for range 100000 {
		n, home, c := ordered(anyTree(r, 1+r.Intn(4))), anyHome(r), anyChange(r)
		if c.Drop {
			continue
		}
		c.Shift.N = 1 + abs(c.Shift.N)/4
		if !shift.Good(c.Shift) || !keeps(n, home, c) {
			continue
		}
		back := c
		back.Shift = shift.Back(c.Shift)
		there, other := rewrite.Node(n, home, c)
		again, otherAgain := rewrite.Node(there, home, back)
		if !equal(again, n) || other != otherAgain {
			t.Fatalf("%s, %v, %v: %s, and then %s, %v, %v", shown(n), home, c, shown(there), shown(again), other, otherAgain)
		}
		if other {
			moved++
		}
		if other && n.Kind == 3 && (n.Ref.Row == n.To.Row && n.Ref.FixRow != n.To.FixRow || n.Ref.Col == n.To.Col && n.Ref.FixCol != n.To.FixCol) {
			ofOneLine++
		}
	}
	if moved < 5000 || ofOneLine < 500 {
		t.Fatalf("only %d moved, %d of them areas of one line that is fixed in one corner alone", moved, ofOneLine)
	}
}

// Areas of one line, fixed in one corner alone, come back as they were.
func TestAreasOfOneLineThereAndBack(t *testing.T) {
	for _, x := range []struct {
		was, is string
		c       rewrite.Change
	}{
		{"A$1:B1", "A$2:B2", rows(1, 1)}, {"A1:B$1", "A2:B$2", rows(1, 1)}, {"S!A$3:B3", "S!A$5:B5", rows(3, 2)}, {"[b]S!A3:B$3", "[b]S!A5:B$5", rows(3, 2)},
		{"$A1:A3", "$A1:A4", rows(2, 1)}, {"A1:$A3", "A1:$A4", rows(2, 1)}, {"$A1:A1", "$A2:A2", rows(1, 1)}, {"A1:$A$1", "A2:$A$2", rows(1, 1)},
		{"$A1:A1", "$B1:B1", cols(1, 1)}, {"A1:$A2", "B1:$B2", cols(1, 1)}, {"A$1:C1", "A$1:E1", cols(2, 2)}, {"A1:A$1", "B1:B$1", cols(1, 1)}, {"$A1:A$1", "$B1:B$1", cols(1, 1)},
	} {
		becomes(t, x.was, inS, x.c, x.is)
		x.c.Shift = shift.Back(x.c.Shift)
		becomes(t, x.is, inS, x.c, x.was)
	}
}

func abs(n int) int { return max(n, -n) }

func TestTextThereAndBack(t *testing.T) {
	for _, s := range []string{"=A1", "=A3", "=$A$62", "=SUM(A1:B2,A1:A62,S!C3:D9,[b]S!$A$1:B62)*tax", "=-A3%+T!A64", "=A3:A3+$A3:$B3"} {
		there, _, e := rewrite.Text(s, inS, rows(3, 2))
		same(t, e, api.OK, "Text", s)
		again, _, e := rewrite.Text(there, inS, rows(3, -2))
		same(t, e, api.OK, "Text", there)
		same(t, again, s, "Text there and back")
	}
	// What falls off does not come back, nor does an area's end.
	for _, x := range [][3]string{{"=A63", "=#REF!", "=#REF!"}, {"=A1:A63", "=A1:A64", "=A1:A62"}, {"=A63:A64", "=#REF!", "=#REF!"}} {
		same(t, asked(rewrite.Text(x[0], inS, rows(3, 2))), texts{x[1], true, api.OK}, "Text", x[0])
		got, _, _ := rewrite.Text(x[1], inS, rows(3, -2))
		same(t, got, x[2], "Text there and back", x[0])
	}
}
