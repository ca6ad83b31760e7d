package value_test

import (
	"fmt"
	"slices"
	"strings"
	"testing"

	"octavo/api"
	"octavo/value"
)

// all: what every call answers, told to see.
func all(see func(what, answer string)) {
	for _, v := range values() {
		n, e := value.ToNum(v)
		s, f := value.ToText(v)
		b, g := value.ToBool(v)
		see(fmt.Sprintf("%#v", v), fmt.Sprint(value.Good(v), value.Text(v), n, e, s, f, b, g))
	}
	l := values()
	for i := range l {
		for j := i % 7; j < len(l); j += 7 {
			see(fmt.Sprint("Cmp ", i, " ", j), fmt.Sprint(value.Cmp(l[i], l[j])))
		}
	}
	long := []string{full(1 << 20), strings.Repeat("\xff", 1<<16), strings.Repeat("é", 1<<16), strings.Repeat("'", 1<<16), strings.Repeat("#", 1<<16), strings.Repeat("true", 1<<16)}
	for _, s := range append(texts(), long...) {
		see("texts "+s, fmt.Sprint(value.Typed(s), value.Upper(s), value.Lower(s), len(value.Chars(s)), value.Str(s)))
	}
	for _, n := range ints() {
		see(fmt.Sprint("Bad ", n), fmt.Sprint(value.Bad(n), value.Of(n, true), value.Of(n, false)))
	}
}

// R1, R4: nothing panics, and the same arguments are answered the same.

func TestCallsAnswerTheSameAgain(t *testing.T) {
	was := map[string]string{}
	all(func(what, answer string) { was[what] = answer })
	all(func(what, answer string) {
		if was[what] != answer {
			t.Fatalf("%.100s: %.100s, then %.100s", what, was[what], answer)
		}
	})
	if len(was) < 10000 {
		t.Fatalf("only %d calls", len(was))
	}
}

// R2, R7: beside an error all else is zero.

func TestBesideAnErrorIsNothing(t *testing.T) {
	for _, v := range values() {
		if n, e := value.ToNum(v); e != 0 && n != 0 {
			t.Fatalf("ToNum %#v: %d %d", v, n, e)
		}
		if s, e := value.ToText(v); e != 0 && s != "" {
			t.Fatalf("ToText %#v: %#v %d", v, s, e)
		}
		if b, e := value.ToBool(v); e != 0 && b {
			t.Fatalf("ToBool %#v: %v %d", v, b, e)
		}
	}
}

// R7: fields of an answer that its kind does not name are zero, and what is made is good.

func TestWhatIsMadeIsGood(t *testing.T) {
	for _, s := range append(texts(), some(5000, 9)...) {
		l := []api.Value{value.Str(s)}
		if len(s) <= api.MaxText {
			l = append(l, value.Typed(s))
		}
		for _, v := range l {
			same(t, value.Good(v), true, "Good of what is made of", s)
		}
	}
	for _, n := range ints() {
		for _, v := range []api.Value{value.Bad(n), value.Of(n, true), value.Of(n, false)} {
			same(t, value.Good(v), true, "Good of what is made of", n)
		}
	}
}

// R3: an answer is new memory, its spare room too.

func TestCharsAreNewMemory(t *testing.T) {
	s := "aé\xffz"
	first := value.Chars(s)
	second := value.Chars(s)
	first = first[:cap(first)]
	for i := range first {
		first[i] = "!"
	}
	if !slices.Equal(second, []string{"a", "é", "\xff", "z"}) || !slices.Equal(value.Chars(s), second) {
		t.Fatalf("Chars %#v behind a change: %#v, %#v", s, second, value.Chars(s))
	}
}
