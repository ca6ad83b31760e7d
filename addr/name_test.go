package addr_test

import (
	"strings"
	"testing"

	"octavo/addr"
)

// P8.1

func TestGoodName(t *testing.T) {
	for _, s := range goodNames() {
		same(t, addr.GoodName(s), true, "GoodName", s)
	}
}

func TestGoodNameRefuses(t *testing.T) {
	for _, s := range badNames() {
		same(t, addr.GoodName(s), false, "GoodName", s)
	}
}

func TestGoodNameOfEachLength(t *testing.T) {
	for n := range 40 {
		for _, c := range []string{"a", "A", "z", "Z", "m"} {
			same(t, addr.GoodName(strings.Repeat(c, n)), n >= 1 && n <= 16, "GoodName", c, n)
		}
		digits := "a" + strings.Repeat("7", n)
		same(t, addr.GoodName(digits), n == 0, "GoodName", digits)
		same(t, addr.GoodName(digits+"x"), n <= 14, "GoodName", digits+"x")
		same(t, addr.GoodName(digits+"_"), n <= 14, "GoodName", digits+"_")
		same(t, addr.GoodName("x"+digits), n <= 14, "GoodName", "x"+digits)
		same(t, addr.GoodName("7"+digits), false, "GoodName", "7"+digits)
		same(t, addr.GoodName("_"+digits), false, "GoodName", "_"+digits)
	}
}

// TestGoodNameOfEachByte: in the first place, behind it, and at the end.
func TestGoodNameOfEachByte(t *testing.T) {
	letters := "ABCDEFGHIJKLMNOPQRSTUVWXYZabcdefghijklmnopqrstuvwxyz"
	for b := range 256 {
		c := string([]byte{byte(b)})
		first, rest := strings.Contains(letters, c), strings.Contains(letters+"0123456789_", c)
		same(t, addr.GoodName(c), first, "GoodName", c)
		same(t, addr.GoodName(c+"bc"), first, "GoodName", c+"bc")
		same(t, addr.GoodName("b"+c+"c"), rest, "GoodName", "b"+c+"c")
		same(t, addr.GoodName("bc"+c), rest, "GoodName", "bc"+c)
		same(t, addr.GoodName("abcdefghijklmno"+c), rest, "GoodName", "abcdefghijklmno"+c)
	}
}

// TestGoodNameOfTruths: in all sizes of their letters, and with one sign more or less.
func TestGoodNameOfTruths(t *testing.T) {
	for _, word := range []string{"TRUE", "FALSE"} {
		for sizes := range 1 << len(word) {
			l := []byte(word)
			for i := range l {
				if sizes>>i&1 == 1 {
					l[i] += 'a' - 'A'
				}
			}
			s := string(l)
			same(t, addr.GoodName(s), false, "GoodName", s)
			for _, near := range []string{s + "_", s + "1", s + "E", s + "e", "x" + s, s + s, s[1:], s[:len(s)-1], s[:1] + "_" + s[1:], s[:1] + "1" + s[1:]} {
				same(t, addr.GoodName(near), true, "GoodName", near)
			}
			for _, near := range []string{s + " ", " " + s, "1" + s, "_" + s, s + "!", "'" + s, s + "\xff"} {
				same(t, addr.GoodName(near), false, "GoodName", near)
			}
		}
	}
}

// TestGoodNameOfManyTexts: all texts of few signs up to a length, those near to names, and others.
func TestGoodNameOfManyTexts(t *testing.T) {
	l := append(texts(), some(50000, 1)...)
	short := []string{""}
	for range 6 {
		var longer []string
		for _, s := range short {
			for _, c := range []string{"a", "Z", "0", "9", "_", "$"} {
				longer = append(longer, s+c)
			}
		}
		l = append(l, longer...)
		short = longer
	}
	for _, s := range []string{"a", "A1", "tax", "TRUE", "false", "A12345", "abcdefghijklmnop"} {
		l = append(l, near(s)...)
	}
	good := 0
	for _, s := range l {
		want := isName(s)
		same(t, addr.GoodName(s), want, "GoodName", s)
		if want {
			good++
		}
	}
	if good < 10000 || good > len(l)-10000 {
		t.Fatalf("%d of %d are good", good, len(l))
	}
}

func TestCellText(t *testing.T) {
	for _, r := range []struct {
		row, col int
		want     string
	}{
		{1, 1, "A1"}, {1, 2, "B1"}, {2, 1, "A2"}, {7, 2, "B7"}, {9, 26, "Z9"}, {10, 26, "Z10"}, {64, 1, "A64"}, {1, 26, "Z1"}, {64, 26, "Z64"}, {63, 25, "Y63"}, {26, 13, "M26"},
		{0, 1, ""}, {1, 0, ""}, {0, 0, ""}, {65, 1, ""}, {1, 27, ""}, {65, 27, ""}, {64, 27, ""}, {65, 26, ""}, {-1, 1, ""}, {1, -1, ""}, {-1, -1, ""}, {26, 64, ""}, {1, 33, ""}, {100, 1, ""},
	} {
		same(t, addr.CellText(r.row, r.col), r.want, "CellText", r.row, r.col)
	}
}

func TestCellTextOfAllCells(t *testing.T) {
	for row := -3; row <= 70; row++ {
		for col := -3; col <= 70; col++ {
			want := ""
			if row > 0 && row < 65 && col > 0 && col < 27 {
				want = written(cell(row, col))
			}
			same(t, addr.CellText(row, col), want, "CellText", row, col)
		}
	}
	for _, row := range ints() {
		for _, col := range ints() {
			if !isGood(cell(row, col)) {
				same(t, addr.CellText(row, col), "", "CellText", row, col)
			}
		}
	}
}
