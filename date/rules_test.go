package date_test

import (
	"fmt"
	"strings"
	"testing"

	"octavo/date"
)

// all: what every call answers, told to see.
func all(see func(what, answer string)) {
	l := ends()
	for _, a := range append(append(ends(), badDays()...), someDays()...) {
		see(fmt.Sprint("day ", a), fmt.Sprint(date.Leap(a), cut(a), date.Weekday(a), date.Week(a), date.Print(a)))
	}
	for _, a := range l {
		for _, b := range l {
			see(fmt.Sprint("two ", a, " ", b), fmt.Sprint(date.Last(a, b), asked(date.Months(a, b, false)), asked(date.Months(a, b, true))))
			for i := (a & 3); i < len(l); i += 4 {
				see(fmt.Sprint("three ", a, " ", b, " ", l[i]), fmt.Sprint(asked(date.Day(a, b, l[i])), asked(date.Of(a, b, l[i]))))
			}
		}
	}
	for _, s := range texts() {
		see("Parse "+s, fmt.Sprint(asked(date.Parse(s))))
	}
}

// texts: of all sorts.
func texts() []string {
	l := []string{"", "-", "--", "2024-02-29", "2024-02-30", "1900-01-01", "9999-12-31", "\xff", "\x00", "é", strings.Repeat("\xff", 10), strings.Repeat("é", 5), strings.Repeat("日", 10), strings.Repeat("2024-02-29", 1<<16)}
	for i := range 20 {
		l = append(l, strings.Repeat("-", i), strings.Repeat("1", i), strings.Repeat("9", i))
	}
	return l
}

// R1, R4: nothing panics, and the same arguments are answered the same.

func TestCallsAnswerTheSameAgain(t *testing.T) {
	was := map[string]string{}
	all(func(what, answer string) { was[what] = answer })
	all(func(what, answer string) {
		if was[what] != answer {
			t.Fatalf("%.100s: %.100s, then %.100s", what, was[what], answer)
		}
	})
	if len(was) < 50000 {
		t.Fatalf("only %d calls", len(was))
	}
}

// R7: beside a false all else is zero; and what is told is a good day.

func TestBesideAFalseIsNothing(t *testing.T) {
	fine := func(m maybe, what string, args ...any) {
		t.Helper()
		if m.ok != (m.day != 0) || m.ok && !cut(m.day).ok {
			t.Fatalf("%s%v: %v", what, args, m)
		}
	}
	for _, a := range ends() {
		if p := cut(a); !p.ok {
			same(t, p, parts{}, "Parts", a)
		}
		for _, b := range ends() {
			fine(asked(date.Months(a, b, false)), "Months", a, b, false)
			fine(asked(date.Months(a, b, true)), "Months", a, b, true)
			for _, c := range ends() {
				fine(asked(date.Day(a, b, c)), "Day", a, b, c)
				fine(asked(date.Of(a, b, c)), "Of", a, b, c)
			}
		}
	}
	for _, s := range texts() {
		fine(asked(date.Parse(s)), "Parse", s)
	}
}
