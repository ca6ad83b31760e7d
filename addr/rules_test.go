package addr_test

import (
	"fmt"
	"strings"
	"testing"

	"octavo/addr"
)

// all: what every call answers, told to see.
func all(see func(what, answer string)) {
	long := []string{strings.Repeat("a", 1<<20), strings.Repeat("\xff", 1<<16), strings.Repeat("é", 1<<16), strings.Repeat("[a]b!A1", 1<<14), "A" + strings.Repeat("0", 1<<20)}
	for i, s := range append(append(texts(), long...), some(20000, 5)...) {
		see(fmt.Sprint("texts ", i), fmt.Sprint(addr.GoodName(s), asked(addr.ParseCell(s)), asked(addr.ParseRef(s))))
		for j, sheet := range []string{"", "Jan", s} {
			ref := of(s, sheet, cell(1, 1))
			see(fmt.Sprint("names ", i, " ", j), fmt.Sprint(addr.Good(ref), addr.Print(ref), addr.PrintArea(ref, ref)))
		}
	}
	for _, a := range ints() {
		for _, b := range ints() {
			see(fmt.Sprint("CellText ", a, " ", b), addr.CellText(a, b))
		}
	}
	l, homes := refs(), places()
	for i, r := range l {
		to, home := l[i*31%len(l)], homes[i*37%len(homes)]
		at := addr.At(r, home)
		see(fmt.Sprint("refs ", i), fmt.Sprint(addr.Good(r), addr.Print(r), addr.PrintArea(r, to), at, boxed(addr.Box(r, to)), addr.Cmp(at, home)))
	}
}

// R1, R4: nothing panics, and the same arguments are answered the same.

func TestCallsAnswerTheSameAgain(t *testing.T) {
	was := map[string]string{}
	all(func(what, answer string) { was[what] = answer })
	all(func(what, answer string) {
		if was[what] != answer {
			t.Fatalf("%.100s: %.100s, then %.100s", what, was[what], answer)
		}
	})
	if len(was) < 20000 {
		t.Fatalf("only %d calls", len(was))
	}
}

// R7: beside a false all else is zero.

func TestBesideAFalseIsNothing(t *testing.T) {
	l := append(texts(), some(50000, 6)...)
	for _, s := range []string{"$A$65", "Jan!$B$65", "[Acme]Jan!$B$7!", "[Acme]Jan!$B$", "[Acme]A1!$B$7"} {
		l = append(l, near(s)...)
	}
	for _, s := range l {
		if m := asked(addr.ParseCell(s)); !m.ok {
			same(t, m, none, "ParseCell", s)
		}
		if m := asked(addr.ParseRef(s)); !m.ok {
			same(t, m, none, "ParseRef", s)
		}
	}
}
