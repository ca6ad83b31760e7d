package addr_test

import (
	"testing"

	"octavo/addr"
)

// P8.4

func TestParseRefOfPrintIsTheRef(t *testing.T) {
	l := refs()
	for _, c := range cells() {
		l = append(l, c, of("", "Jan", c), of("Acme", "Jan", c))
	}
	for _, n := range goodNames() {
		for _, f := range fixings() {
			c := fixed(cell(7, 2), f[0], f[1])
			l = append(l, of("", n, c), of(n, "Jan", c), of("Acme", n, c), of(n, n, c))
		}
	}
	told := 0
	for _, r := range l {
		s := addr.Print(r)
		if s == "" {
			same(t, isGood(r), false, "a ref without a text", r)
			continue
		}
		same(t, asked(addr.ParseRef(s)), maybe{r, true}, "ParseRef", s)
		told++
	}
	if told < 3*64*26*4 {
		t.Fatalf("only %d are refs", told)
	}
}

// TestWhatIsParsedIsGood: and its text is parsed to it again.
func TestWhatIsParsedIsGood(t *testing.T) {
	for _, s := range append(texts(), some(100000, 3)...) {
		r, ok := addr.ParseRef(s)
		same(t, addr.Good(r), ok, "Good", r)
		if ok {
			same(t, asked(addr.ParseRef(addr.Print(r))), maybe{r, true}, "ParseRef", addr.Print(r))
		}
		c, ok := addr.ParseCell(s)
		same(t, addr.Good(c), ok, "Good", c)
		if ok {
			same(t, maybe{r, true}, maybe{c, ok}, "ParseRef and ParseCell", s)
		}
	}
}

// TestNamesAreNoCells: no text is both, whichever calls are asked.
func TestNamesAreNoCells(t *testing.T) {
	for _, s := range append(texts(), some(100000, 4)...) {
		if _, ok := addr.ParseCell(s); ok && addr.GoodName(s) {
			t.Fatalf("%#v is a cell and a name", s)
		}
	}
	for row := range 70 {
		for col := range 30 {
			same(t, addr.GoodName(addr.CellText(row, col)), false, "GoodName of a cell", row, col)
		}
	}
}

// TestCellTextIsTheCell: what CellText tells is parsed to that cell.
func TestCellTextIsTheCell(t *testing.T) {
	for row := 1; row <= 64; row++ {
		for col := 1; col <= 26; col++ {
			same(t, asked(addr.ParseCell(addr.CellText(row, col))), maybe{cell(row, col), true}, "ParseCell of CellText", row, col)
		}
	}
}
