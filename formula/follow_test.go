package formula_test

import (
	"testing"

	"octavo/api"
	"octavo/formula"
)

// P10.4

func TestParseOfPrintIsTheTree(t *testing.T) {
	all := append(trees(150000, 9), small(3)...)
	for depth := 1; depth <= api.MaxDepth; depth++ {
		for _, x := range tall(depth) {
			all = append(all, x.node)
		}
	}
	for _, x := range leaves() {
		all = append(all, x.node)
	}
	long, held := 0, 0
	for _, n := range all {
		s := formula.Print(n)
		got, e := formula.Parse(s)
		if len(s) > api.MaxText {
			same(t, e, api.ErrText, "Parse", s)
			long++
			continue
		}
		if e != api.OK || !equal(got, n) {
			t.Fatalf("Parse(%q): %s, %d, want %s", s, shown(got), e, shown(n))
		}
		held++
	}
	if long < 10 || held < 100000 {
		t.Fatalf("%d were too long, and %d held", long, held)
	}
}

// TestParseOfPrintAtTheEnd: texts of just MaxText bytes, and of one more.
func TestParseOfPrintAtTheEnd(t *testing.T) {
	for length := 200; length < 300; length++ {
		n := bin("+", num(1), str(text(length-4)))
		s := formula.Print(n)
		switch {
		case length-4 > api.MaxText:
			same(t, s, "", "Print of a text so long", length)
		case len(s) > api.MaxText:
			refuses(t, s, api.ErrText)
		default:
			same(t, len(s), length, "the length of Print", length)
			parses(t, s, n)
		}
	}
	parses(t, formula.Print(bin("+", num(1), str(text(251)))), bin("+", num(1), str(text(251))))
	refuses(t, formula.Print(bin("+", num(1), str(text(252)))), api.ErrText)
}

// text: of so many bytes.
func text(n int) string {
	l := make([]byte, n)
	for i := range l {
		l[i] = 'x'
	}
	return string(l)
}

// TestPrintOfParseStays: what is printed is printed again as it is.
func TestPrintOfParseStays(t *testing.T) {
	for _, s := range mixed(200000, 10) {
		n, e := formula.Parse(s)
		if e != api.OK {
			continue
		}
		printed := formula.Print(n)
		again, e := formula.Parse(printed)
		if e != api.OK || !equal(again, n) || formula.Print(again) != printed {
			t.Fatalf("Parse of Print of %q: %q, %s, %d, want %s", s, printed, shown(again), e, shown(n))
		}
	}
}
