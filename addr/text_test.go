package addr_test

import (
	"math"
	"strings"
	"testing"

	"octavo/addr"
	"octavo/api"
)

// P8.2

func TestParseCell(t *testing.T) {
	for _, r := range []struct {
		text string
		want api.Ref
	}{
		{"A1", cell(1, 1)}, {"B7", cell(7, 2)}, {"Z64", cell(64, 26)}, {"Z1", cell(1, 26)}, {"A64", cell(64, 1)}, {"A9", cell(9, 1)}, {"A10", cell(10, 1)}, {"Y60", cell(60, 25)},
		{"a1", cell(1, 1)}, {"b7", cell(7, 2)}, {"z64", cell(64, 26)}, {"z1", cell(1, 26)},
		{"$A1", fixed(cell(1, 1), true, false)}, {"A$1", fixed(cell(1, 1), false, true)}, {"$A$1", fixed(cell(1, 1), true, true)},
		{"$b$7", fixed(cell(7, 2), true, true)}, {"z$64", fixed(cell(64, 26), false, true)}, {"$Z64", fixed(cell(64, 26), true, false)}, {"$Z$64", fixed(cell(64, 26), true, true)},
	} {
		same(t, asked(addr.ParseCell(r.text)), maybe{r.want, true}, "ParseCell", r.text)
		same(t, asked(addr.ParseRef(r.text)), maybe{r.want, true}, "ParseRef", r.text)
	}
}

func TestParseCellOfAllCells(t *testing.T) {
	l := cells()
	same(t, len(l), 64*26*4, "cells")
	for s, r := range l {
		same(t, asked(addr.ParseCell(s)), maybe{r, true}, "ParseCell", s)
		same(t, asked(addr.ParseCell(strings.ToLower(s))), maybe{r, true}, "ParseCell", strings.ToLower(s))
	}
}

func TestParseCellRefuses(t *testing.T) {
	for _, s := range noCells() {
		same(t, asked(addr.ParseCell(s)), none, "ParseCell", s)
		if !strings.Contains(s, "!") {
			same(t, asked(addr.ParseRef(s)), none, "ParseRef", s)
		}
	}
	for _, s := range []string{"Jan!A1", "Jan!$B$7", "[Acme]Jan!A1", "[Acme]A1"} {
		same(t, asked(addr.ParseCell(s)), none, "ParseCell", s)
	}
}

func TestParseRef(t *testing.T) {
	both := fixed(cell(7, 2), true, true)
	for _, r := range []struct {
		text string
		want api.Ref
	}{
		{"[Acme]Jan!$B$7", of("Acme", "Jan", both)}, {"Jan!$B$7", of("", "Jan", both)}, {"$B$7", both},
		{"Jan!A1", of("", "Jan", cell(1, 1))}, {"Jan!z64", of("", "Jan", cell(64, 26))}, {"a!a1", of("", "a", cell(1, 1))}, {"A1_!A1", of("", "A1_", cell(1, 1))}, {"TRUE1!A1", of("", "TRUE1", cell(1, 1))}, {"abcdefghijklmnop!A1", of("", "abcdefghijklmnop", cell(1, 1))},
		{"[a]a!A1", of("a", "a", cell(1, 1))}, {"[a]b!$A1", of("a", "b", fixed(cell(1, 1), true, false))}, {"[B]A!A$1", of("B", "A", fixed(cell(1, 1), false, true))}, {"[abcdefghijklmnop]ABCDEFGHIJKLMNOP!$Z$64", of("abcdefghijklmnop", "ABCDEFGHIJKLMNOP", fixed(cell(64, 26), true, true))}, {"[x_1]y_2!c3", of("x_1", "y_2", cell(3, 3))},
	} {
		same(t, asked(addr.ParseRef(r.text)), maybe{r.want, true}, "ParseRef", r.text)
	}
}

// TestParseRefKeepsNames: their letters stay of the size that they are.
func TestParseRefKeepsNames(t *testing.T) {
	for _, n := range goodNames() {
		same(t, asked(addr.ParseRef(n+"!b2")), maybe{of("", n, cell(2, 2)), true}, "ParseRef", n)
		same(t, asked(addr.ParseRef("["+n+"]Jan!b2")), maybe{of(n, "Jan", cell(2, 2)), true}, "ParseRef", n)
		same(t, asked(addr.ParseRef("[Acme]"+n+"!b2")), maybe{of("Acme", n, cell(2, 2)), true}, "ParseRef", n)
	}
}

func TestParseRefRefuses(t *testing.T) {
	for _, n := range badNames() {
		for _, s := range []string{n + "!B2", "[" + n + "]Jan!B2", "[Acme]" + n + "!B2", "[" + n + "]" + n + "!B2"} {
			same(t, asked(addr.ParseRef(s)), none, "ParseRef", s)
		}
	}
	for _, c := range noCells() {
		for _, s := range []string{"Jan!" + c, "[Acme]Jan!" + c} {
			same(t, asked(addr.ParseRef(s)), none, "ParseRef", s)
		}
	}
	for _, s := range []string{
		// No sheet.
		"!A1", "[Acme]A1", "[Acme]!A1", "[Acme]$B$7", "[]!A1", "[]A1", "[]Jan!A1", "[][]!A1",
		// Brackets that are missing, twice or in other places.
		"[AcmeJan!A1", "Acme]Jan!A1", "AcmeJan]!A1", "[AcmeJan]!A1", "[[Acme]Jan!A1", "[Acme]]Jan!A1", "[[Acme]]Jan!A1", "[Acme][Jan!A1", "[Acme][Jan]!A1", "[Acme]Jan]!A1", "[Acme]Jan![A1", "[Acme]Jan!A1]", "[Acme]Jan![A1]", "[Acme]Jan![A]1", "]Acme[Jan!A1", "]Acme]Jan!A1", "[Acme[Jan!A1", "Acme[Jan]!A1", "Jan[Acme]!A1", "A[cme]Jan!A1", "Jan![Acme]A1", "[Acme]Jan", "[Acme]", "[", "]", "[]", "[!", "[]!", "[a", "[a]b", "(Acme)Jan!A1", "{Acme}Jan!A1", "[Jan!A1]",
		// ! that are missing, twice or in other places.
		"JanA1", "[Acme]JanA1", "Jan!!A1", "!Jan!A1", "Jan!A1!", "Jan!A!1", "J!an!A1", "[Acme]!Jan!A1", "[Acme!]Jan!A1", "[!Acme]Jan!A1", "[Acme!Jan]A1", "![Acme]Jan!A1", "[Acme]Jan!!A1", "[Acme]Jan!A1!", "Acme!Jan!A1", "!", "!!", "A1!", "Jan!", "[Acme]Jan!", "Jan!$", "Jan.A1", "Jan:A1", "Jan'A1",
		// Blanks and other signs between.
		" Jan!A1", "Jan!A1 ", "Jan !A1", "Jan! A1", "[ Acme]Jan!A1", "[Acme ]Jan!A1", "[Acme] Jan!A1", " [Acme]Jan!A1", "[Acme]Jan!A1\n", "'Jan'!A1", "'[Acme]Jan'!A1", "\"Jan\"!A1", "=Jan!A1", "$Jan!A1", "Jan$!A1", "[$Acme]Jan!A1", "[Acme]$Jan!A1", "$[Acme]Jan!A1", "[Acme]Jan!A1:B2", "Jan!A1:B2", "Jan!Jan", "[Acme]Jan!Jan", "Jan!A65", "[Acme]Jan!A0", "A1!A1", "[A1]Jan!A1", "[Acme]A1!A1", "TRUE!A1", "[true]Jan!A1", "[Acme]False!A1",
		strings.Repeat("[Acme]", 1<<14) + "Jan!A1", strings.Repeat("Jan!", 1<<14) + "A1", strings.Repeat("[", 1<<16), strings.Repeat("]", 1<<16), strings.Repeat("!", 1<<16), "[" + strings.Repeat("a", 1<<16) + "]Jan!A1", "Jan!A" + strings.Repeat("1", 1<<16),
	} {
		same(t, asked(addr.ParseRef(s)), none, "ParseRef", s)
	}
}

// TestParseOfManyTexts: those near to good ones, and others.
func TestParseOfManyTexts(t *testing.T) {
	l := append(texts(), some(200000, 2)...)
	for _, s := range []string{"A1", "$Z$64", "$b7", "c$10", "Jan!A1", "a!$Z$64", "[Acme]Jan!$B$7", "[a]b!C12", "abcdefghijklmnop!A1", "[Acme]A1", "[]Jan!A1", "!A1"} {
		l = append(l, near(s)...)
	}
	taken := 0
	for _, s := range l {
		same(t, asked(addr.ParseCell(s)), isCell(s), "ParseCell", s)
		want := isRef(s)
		same(t, asked(addr.ParseRef(s)), want, "ParseRef", s)
		if want.ok && want.ref.Sheet != "" {
			taken++
		}
	}
	if taken < 2000 {
		t.Fatalf("only %d of %d are of sheets", taken, len(l))
	}
}

func TestGood(t *testing.T) {
	for _, r := range []api.Ref{
		cell(1, 1), cell(64, 26), cell(1, 26), cell(64, 1), fixed(cell(7, 2), true, false), fixed(cell(7, 2), false, true), fixed(cell(7, 2), true, true),
		of("", "Jan", cell(1, 1)), of("", "a", cell(64, 26)), of("", "abcdefghijklmnop", fixed(cell(7, 2), true, true)),
		of("Acme", "Jan", cell(1, 1)), of("a", "a", cell(64, 26)), of("abcdefghijklmnop", "A1_", fixed(cell(7, 2), true, true)),
	} {
		same(t, addr.Good(r), true, "Good", r)
	}
	for _, n := range goodNames() {
		same(t, addr.Good(of("", n, cell(1, 1))), true, "Good of sheet", n)
		same(t, addr.Good(of(n, "Jan", cell(1, 1))), true, "Good of book", n)
		same(t, addr.Good(of(n, "", cell(1, 1))), false, "Good of a book alone", n)
	}
}

func TestGoodRefuses(t *testing.T) {
	for _, r := range []api.Ref{
		{}, cell(0, 1), cell(1, 0), cell(65, 1), cell(1, 27), cell(-1, 1), cell(1, -1), cell(65, 27), cell(math.MaxInt, 1), cell(math.MinInt, 1), cell(1, math.MaxInt), cell(1, math.MinInt), fixed(cell(0, 0), true, true), fixed(cell(65, 26), true, true), cell(1<<32+1, 1), cell(1, 1<<32+1), cell(257, 1), cell(1, 257),
		of("Acme", "", cell(1, 1)), of("Acme", "", fixed(cell(7, 2), true, true)), of("", "Jan", cell(0, 1)), of("", "Jan", cell(1, 27)), of("Acme", "Jan", cell(65, 1)), of("Acme", "Jan", cell(1, 0)), of("Acme", "Jan", api.Ref{}),
		// What would be read as another ref.
		of("", "[Acme]Jan", cell(1, 1)), of("Acme", "]Jan", cell(1, 1)), of("Acme]Jan!", "x", cell(1, 1)), of("", "Jan!", cell(1, 1)), of("Acme]", "Jan", cell(1, 1)),
	} {
		same(t, addr.Good(r), false, "Good", r)
		same(t, addr.Print(r), "", "Print", r)
	}
	for _, n := range badNames() {
		for _, r := range []api.Ref{of("", n, cell(1, 1)), of(n, "Jan", cell(1, 1)), of("Acme", n, cell(1, 1)), of(n, n, cell(1, 1)), of(n, "", cell(1, 1))} {
			// The empty name stands where there is none.
			want := n == "" && r.Book == ""
			same(t, addr.Good(r), want, "Good", r)
			same(t, addr.Print(r) != "", want, "Print", r)
		}
	}
}

func TestPrint(t *testing.T) {
	both := fixed(cell(7, 2), true, true)
	for _, r := range []struct {
		ref  api.Ref
		want string
	}{
		{cell(1, 1), "A1"}, {cell(64, 26), "Z64"}, {cell(10, 3), "C10"}, {fixed(cell(7, 2), true, false), "$B7"}, {fixed(cell(7, 2), false, true), "B$7"}, {both, "$B$7"},
		{of("", "Jan", cell(1, 1)), "Jan!A1"}, {of("", "jan", both), "jan!$B$7"}, {of("Acme", "Jan", both), "[Acme]Jan!$B$7"}, {of("a", "b", cell(64, 26)), "[a]b!Z64"},
	} {
		same(t, addr.Print(r.ref), r.want, "Print", r.ref)
	}
}

func TestGoodAndPrintOfManyRefs(t *testing.T) {
	for _, r := range refs() {
		want := ""
		if isGood(r) {
			want = written(r)
		}
		same(t, addr.Good(r), want != "", "Good", r)
		same(t, addr.Print(r), want, "Print", r)
	}
}

func TestPrintArea(t *testing.T) {
	for _, r := range []struct {
		ref, to api.Ref
		want    string
	}{
		{cell(1, 1), cell(2, 2), "A1:B2"}, {cell(1, 1), cell(1, 1), "A1:A1"}, {cell(2, 2), cell(1, 1), "B2:A1"}, {cell(1, 26), cell(64, 1), "Z1:A64"},
		{fixed(cell(1, 1), true, true), cell(2, 2), "$A$1:B2"}, {cell(1, 1), fixed(cell(2, 2), true, true), "A1:$B$2"}, {fixed(cell(1, 1), true, false), fixed(cell(2, 2), false, true), "$A1:B$2"},
		{of("", "Jan", cell(1, 1)), cell(2, 2), "Jan!A1:B2"}, {of("Acme", "Jan", fixed(cell(7, 2), true, true)), fixed(cell(64, 26), true, true), "[Acme]Jan!$B$7:$Z$64"},
	} {
		same(t, addr.PrintArea(r.ref, r.to), r.want, "PrintArea", r.ref, r.to)
	}
}

func TestPrintAreaRefuses(t *testing.T) {
	first, last := cell(1, 1), cell(2, 2)
	for _, r := range [][2]api.Ref{
		// The second one has a book or a sheet, the first one's too.
		{first, of("", "Jan", last)}, {first, of("Acme", "Jan", last)}, {first, of("Acme", "", last)}, {of("", "Jan", first), of("", "Jan", last)}, {of("Acme", "Jan", first), of("Acme", "Jan", last)}, {of("Acme", "Jan", first), of("", "Jan", last)}, {of("Acme", "Jan", first), of("Acme", "", last)}, {first, of("", "Jan", fixed(last, true, true))}, {first, of("", " ", last)},
		// One is not good.
		{cell(0, 1), last}, {cell(1, 27), last}, {of("Acme", "", first), last}, {of("", "A1", first), last}, {of("TRUE", "Jan", first), last}, {first, cell(65, 1)}, {first, cell(1, 0)}, {first, api.Ref{}}, {api.Ref{}, last}, {api.Ref{}, api.Ref{}}, {first, cell(math.MaxInt, math.MinInt)}, {of("", "Jan", first), cell(0, 0)},
	} {
		same(t, addr.PrintArea(r[0], r[1]), "", "PrintArea", r[0], r[1])
	}
}

func TestPrintAreaOfManyRefs(t *testing.T) {
	l := refs()
	told := 0
	for i := range l {
		for j := i % 11; j < len(l); j += 11 {
			want := ""
			if isGood(l[i]) && isGood(l[j]) && l[j].Book == "" && l[j].Sheet == "" {
				want = written(l[i]) + ":" + written(l[j])
				told++
			}
			same(t, addr.PrintArea(l[i], l[j]), want, "PrintArea", l[i], l[j])
		}
	}
	if told < 1000 {
		t.Fatalf("only %d are areas", told)
	}
}
