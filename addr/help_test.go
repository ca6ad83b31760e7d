package addr_test

import (
	"math"
	"math/rand"
	"regexp"
	"strconv"
	"strings"
	"testing"

	"octavo/api"
)

// same: has a call answered as it is to?
func same[T comparable](t *testing.T, got, want T, what string, args ...any) {
	if got != want {
		t.Helper() // here, since millions of texts pass
		t.Fatalf("%s%#v: %#v, want %#v", what, args, got, want)
	}
}

// maybe: what a call answers that may tell a ref.
type maybe struct {
	ref api.Ref
	ok  bool
}

var none = maybe{}

func asked(r api.Ref, ok bool) maybe {
	return maybe{r, ok}
}

// box: what Box answers.
type box struct{ r1, c1, r2, c2 int }

func boxed(r1, c1, r2, c2 int) box {
	return box{r1, c1, r2, c2}
}

// cell, of: a ref without names, and one of a book and a sheet.
func cell(row, col int) api.Ref {
	return api.Ref{Row: row, Col: col}
}

func of(book, sheet string, r api.Ref) api.Ref {
	r.Book, r.Sheet = book, sheet
	return r
}

// fixed: with $ ahead of the column, of the row.
func fixed(r api.Ref, col, row bool) api.Ref {
	r.FixCol, r.FixRow = col, row
	return r
}

// fixings: what may be fixed, of column and row.
func fixings() [][2]bool {
	return [][2]bool{{false, false}, {true, false}, {false, true}, {true, true}}
}

// ints: at their ends, around the ends of rows and columns, and those that would be a row or a column, if they were cut or wrapped.
func ints() []int {
	return []int{math.MinInt, math.MinInt + 1, math.MinInt32, -65, -64, -27, -26, -2, -1, 0, 1, 2, 9, 10, 11, 25, 26, 27, 28, 32, 33, 57, 58, 63, 64, 65, 66, 99, 100, 255, 256, 257, 1<<16 + 1, 1<<32 + 1, math.MaxInt32, math.MaxInt - 1, math.MaxInt}
}

// goodNames: short and long ones, and those that are near to what is none.
func goodNames() []string {
	return []string{
		"A", "a", "Z", "z", "AB", "zz", "tax", "Acme", "Jan", "Sheet", "abcdefghijklmnop", "ABCDEFGHIJKLMNOP", "a234567890b23456", "a_______________", "A12345678901234_", "A_", "a_1", "A1_", "A1b", "AB1", "aa99", "A1A1", "x1y", "Q4_2024",
		"TRU", "TRUEE", "TRUE1", "TRUE_", "xTRUE", "FALS", "FALSEE", "FALSE0", "false_", "T", "F", "TRUEFALSE", "REF", "NA", "SUM", "R1C1", "E1_", "tRUe2", "T1RUE",
	}
}

// badNames: those of other signs, of too many, and those that look like something else.
func badNames() []string {
	return []string{
		"", " ", "_", "$", "!", "[", "]", "1", "0", "_a", "_1", "1a", "12", "9_", "$A", "-a", ".a", "'a", "\"a", "=a", "#a", "a b", " a", "a ", "a\t", "a\n", "\na", "a\x00", "\x00a", "a-b", "a.b", "a!", "!a", "a$", "a$1", "[a]", "[a", "a]", "a[", "a:b", "a'", "a@", "a`", "a{", "a/", "a:", "a^", "@a", "`a", "{a", "/a", ":a", "^a",
		"abcdefghijklmnopq", "ABCDEFGHIJKLMNOPQ", "a234567890b234567", "a________________", strings.Repeat("a", 32), strings.Repeat("a", 256), strings.Repeat("a", 257), strings.Repeat("a", 1<<16), strings.Repeat("a", 1<<16+1), strings.Repeat("_", 16),
		"A1", "a1", "Z9", "z9", "A0", "a0", "A00", "A01", "A64", "A65", "Z64", "b99", "A100", "c000", "A123456789", "a123456789012345", "Z000000000000000", "A1234567890123456", "A" + strings.Repeat("1", 300),
		"TRUE", "FALSE", "true", "false", "True", "False", "tRuE", "FaLsE", "TRUe", "fALSE",
		"é", "É", "aé", "éa", "ä", "ß", "ſ", "falſe", "FALſE", "aſ", "\u212a", "a\u212a", "я", "日", "a日", "ａ", "Ａ1", "ａｂ", "a１", "a٣", "\xff", "a\xff", "\xffa", "a\x80", "a\xe1", "\xc1", "a\xb1", "\xe1\xe2", "😀", "\ufffd", "a\u0301",
	}
}

// cells: the texts of cells that there are, and what they are.
func cells() map[string]api.Ref {
	m := map[string]api.Ref{}
	for row := 1; row <= 64; row++ {
		for col := 1; col <= 26; col++ {
			for _, f := range fixings() {
				r := fixed(cell(row, col), f[0], f[1])
				m[written(r)] = r
			}
		}
	}
	return m
}

// noCells: texts that are no cells.
func noCells() []string {
	return []string{
		"", " ", "$", "$$", "$$$", "A", "a", "Z", "$A", "A$", "$A$", "1", "12", "$1", "1A", "1$A", "$1$A", "A1A", "AA1", "AB12", "A1:B2", "A1 ", " A1", "A 1", "A1\n", "\tA1", "A1\x00", "\x00A1",
		"A0", "A00", "A01", "A09", "A064", "A001", "$A$01", "A65", "Z65", "A66", "A70", "A99", "a65", "$A$65", "A100", "A101", "A640", "A064", "A111", "A257", "A321", "A4294967297", "A18446744073709551617", "A" + strings.Repeat("1", 300), "A" + strings.Repeat("0", 300) + "1",
		"$$A1", "A$$1", "$$A$$1", "A1$", "$A1$", "A$1$", "$A$1$", "A1$1", "$A$1$1", "A$", "$ A1", "A$ 1", "$A $1",
		"A+1", "A-1", "A+01", "A1.", "A1.0", "A.1", "A1e1", "A0x1", "A1_", "A_1", "A1_0", "_A1", "A1,", "A'1", "'A1", "A:1", "A/1", "A1/", "A1:",
		"@1", "[1", "`1", "{1", "^1", "_1", "A1!", "!A1", "[A1]", "(A1)", "=A1", "#REF!", "TRUE", "R1C1",
		"é1", "Aé", "ſ1", "\u212a1", "Ａ1", "A１", "A٣", "А1", "\xc11", "A\xb1", "\xff", "A\xff", "\xffA1", "A1\xff", "A\xff1", "\x411\x80", "😀1", strings.Repeat("A", 1<<16), strings.Repeat("A1", 1<<15), strings.Repeat("$", 1<<16),
	}
}

// texts: of all sorts, good refs among them.
func texts() []string {
	l := append(append(goodNames(), badNames()...), noCells()...)
	for i, n := range append(goodNames(), badNames()...) {
		c := []string{"A1", "$B$7", "z64", "A65", "A", ""}[i%6]
		l = append(l, n+"!"+c, "["+n+"]"+"Jan!"+c, "[Acme]"+n+"!"+c, "["+n+"]"+c, "["+n+"]!"+c, "["+n+"!"+c, n+"]Jan!"+c)
	}
	return l
}

// some: n texts of few signs, so that many of them are names, cells or refs; each time the same.
func some(n int, seed int64) []string {
	parts := []string{"A", "b", "Z", "z", "1", "6", "64", "0", "_", "$", "!", "!", "[", "]", "Jan", "[Acme]", "TRUE", "false", "A1", "$B$7", " ", "é", "\xff", ":"}
	r := rand.New(rand.NewSource(seed))
	l := make([]string, n)
	for i := range l {
		for range r.Intn(7) {
			l[i] += parts[r.Intn(len(parts))]
		}
	}
	return l
}

// refs: of each sort of names, with cells in a sheet and outside of one.
func refs() []api.Ref {
	var l []api.Ref
	names := append([]string{"", "tax", "A", "abcdefghijklmnop", "TRUE1"}, "A1", "true", "_a", "abcdefghijklmnopq", " ", "a!", "[b]s", "b]s", "!", "\xff")
	for i, book := range names {
		for j, sheet := range names {
			f := fixings()[(i+j)%4]
			for _, c := range []api.Ref{cell(1, 1), cell(64, 26), cell(7, 2), cell(0, 1), cell(1, 0), cell(65, 1), cell(1, 27)} {
				l = append(l, of(book, sheet, fixed(c, f[0], f[1])))
			}
		}
	}
	for _, row := range ints() {
		for _, col := range ints() {
			f := fixings()[uint(row+col)%4]
			l = append(l, fixed(cell(row, col), f[0], f[1]), of("Acme", "Jan", fixed(cell(row, col), f[1], f[0])))
		}
	}
	return l
}

// places: those that differ in one part alone, in several, and in none.
func places() []api.Place {
	var l []api.Place
	for _, book := range []string{"", "A", "a", "ab", "b"} {
		for _, sheet := range []string{"", "A", "Jan", "a", "\xff"} {
			for _, row := range []int{math.MinInt, -1, 0, 1, 2, 10, math.MaxInt} {
				for _, col := range []int{math.MinInt, 0, 1, 2, math.MaxInt} {
					l = append(l, api.Place{Book: book, Sheet: sheet, Row: row, Col: col})
				}
			}
		}
	}
	return l
}

// The second way: the document's words as patterns.

const (
	aName = `[A-Za-z][A-Za-z0-9_]{0,15}`
	aCell = `(\$?)([A-Za-z])(\$?)([1-9][0-9]?)`
)

var (
	namePattern = regexp.MustCompile(`\A` + aName + `\z`)
	noName      = regexp.MustCompile(`\A(?:[A-Za-z][0-9]+|[Tt][Rr][Uu][Ee]|[Ff][Aa][Ll][Ss][Ee])\z`)
	cellPattern = regexp.MustCompile(`\A` + aCell + `\z`)
	refPattern  = regexp.MustCompile(`\A(?:(?:\[(` + aName + `)\])?(` + aName + `)!)?(` + aCell + `)\z`)
)

// isName: P8.1's.
func isName(s string) bool {
	return namePattern.MatchString(s) && !noName.MatchString(s)
}

// isCell, isRef: P8.2's.
func isCell(s string) maybe {
	m := cellPattern.FindStringSubmatch(s)
	if m == nil {
		return none
	}
	row, _ := strconv.Atoi(m[4])
	if row > 64 {
		return none
	}
	return maybe{api.Ref{Row: row, Col: int(strings.ToUpper(m[2])[0]) - 64, FixCol: m[1] != "", FixRow: m[3] != ""}, true}
}

func isRef(s string) maybe {
	m := refPattern.FindStringSubmatch(s)
	if m == nil || m[1] != "" && !isName(m[1]) || m[2] != "" && !isName(m[2]) {
		return none
	}
	c := isCell(m[3])
	if c.ok {
		c.ref = of(m[1], m[2], c.ref)
	}
	return c
}

// isGood: P8.2's.
func isGood(r api.Ref) bool {
	names := r.Book == "" && r.Sheet == "" || r.Book == "" && isName(r.Sheet) || isName(r.Book) && isName(r.Sheet)
	return names && r.Row > 0 && r.Row < 65 && r.Col > 0 && r.Col < 27
}

// written: the text of a ref that is good.
func written(r api.Ref) string {
	var b strings.Builder
	if r.Book != "" {
		b.WriteString("[" + r.Book + "]")
	}
	if r.Sheet != "" {
		b.WriteString(r.Sheet + "!")
	}
	if r.FixCol {
		b.WriteString("$")
	}
	b.WriteByte("?ABCDEFGHIJKLMNOPQRSTUVWXYZ"[r.Col])
	if r.FixRow {
		b.WriteString("$")
	}
	b.WriteString(strconv.Itoa(r.Row))
	return b.String()
}

// near: texts that are s with one byte more, one less, or another one.
func near(s string) []string {
	l := []string{s}
	for i := range len(s) {
		l = append(l, s[:i]+s[i+1:])
	}
	for i := range len(s) + 1 {
		for b := range 256 {
			c := string([]byte{byte(b)})
			l = append(l, s[:i]+c+s[i:])
			if i < len(s) {
				l = append(l, s[:i]+c+s[i+1:])
			}
		}
	}
	return l
}
