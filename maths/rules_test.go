package maths_test

import (
	"fmt"
	"math/rand"
	"slices"
	"strings"
	"testing"

	"octavo/api"
	"octavo/maths"
)

// all: what many calls answer, told to see.
func all(see func(what, answer string)) {
	r := rand.New(rand.NewSource(6))
	for i := range 300 {
		for _, s := range names() {
			args := anyArgs(r, s)
			v, ok := maths.Call(s, args)
			see(fmt.Sprint(s, i), fmt.Sprint(v, ok))
		}
	}
	for i, a := range odd() {
		see(fmt.Sprint("odd ", i), fmt.Sprint(maths.Good(a), maths.One(a)))
		for _, s := range names() {
			for n := range 4 {
				v, ok := maths.Call(s, slices.Repeat([]api.Area{a}, n))
				see(fmt.Sprint(s, " of odd ", i, n), fmt.Sprint(v, ok))
			}
		}
	}
	for _, s := range append(names(), "", "abs", "\xff", strings.Repeat("A", 1<<16)) {
		v, ok := maths.Call(s, make([]api.Area, 1<<12))
		see("many "+s, fmt.Sprint(maths.Known(s), v, ok))
	}
}

// R1, R4: nothing panics, and the same arguments are answered the same.
func TestCallsAnswerTheSameAgain(t *testing.T) {
	was := map[string]string{}
	all(func(what, answer string) { was[what] = answer })
	all(func(what, answer string) {
		if was[what] != answer {
			t.Fatalf("%.100s: %.100s, then %.100s", what, was[what], answer)
		}
	})
	if len(was) < 8000 {
		t.Fatalf("only %d calls", len(was))
	}
}

// R2, R7: beside a false all else is zero; what a kind does not name is zero in an answer.
func TestBesideAFalseIsNothing(t *testing.T) {
	for _, s := range []string{"", "abs", "SUM", "ABS "} {
		for _, a := range odd() {
			v, ok := maths.Call(s, []api.Area{a})
			same(t, v, blank, "Call", s)
			same(t, ok, false, "Call", s)
		}
	}
	same(t, call(t, "ISODD", of(2)), api.Value{Kind: api.Bool}, "ISODD")
	same(t, call(t, "BASE", of(2), of(2)), api.Value{Kind: api.Str, S: "10"}, "BASE")
	same(t, call(t, "ABS", of("x")), api.Value{Kind: api.Bad, N: api.BadVal}, "ABS")
	same(t, call(t, "SIGN", of(0)), api.Value{Kind: api.Num}, "SIGN")
}

// roomy: l with some more behind its end.
func roomy[T any](l []T, more T) []T {
	out := slices.Repeat([]T{more}, len(l)+3)
	return out[:copy(out, l)]
}

// withRoom: arguments with lists that have room behind their ends, filled.
func withRoom(args []api.Area) []api.Area {
	out := roomy(args, single(text("behind")))
	for i, a := range args {
		a.L = roomy(a.L, text("behind"))
		out[i] = a
	}
	return out
}

// seen: arguments with all that lies behind the ends of their lists.
func seen(args []api.Area) string {
	var s strings.Builder
	for _, a := range args[:cap(args)] {
		fmt.Fprint(&s, a.Rows, a.Cols, a.Many, len(a.L), a.L[:cap(a.L)])
	}
	return s.String()
}

// R3: what is handed in stays as it was.
func TestArgumentsStay(t *testing.T) {
	r := rand.New(rand.NewSource(7))
	for range 500 {
		for _, s := range names() {
			args := anyArgs(r, s)
			given := withRoom(args)
			was := seen(given)
			want, _ := maths.Call(s, args)
			got, _ := maths.Call(s, given)
			same(t, got, want, s, args)
			same(t, seen(given), was, s, args)
			for _, a := range given {
				maths.Good(a)
				maths.One(a)
			}
			same(t, seen(given), was, "Good and One", args)
		}
	}
}

// R3: nil and empty lists are the same.
func TestEmptyLists(t *testing.T) {
	for _, s := range names() {
		one, _ := maths.Call(s, nil)
		two, _ := maths.Call(s, []api.Area{})
		same(t, one, two, s)
		one, _ = maths.Call(s, []api.Area{{Rows: 1, Cols: 1}})
		two, _ = maths.Call(s, []api.Area{{Rows: 1, Cols: 1, L: []api.Value{}}})
		same(t, one, two, s)
	}
	for _, a := range []api.Area{{}, {L: []api.Value{}}, {Rows: 1, Cols: 1}, {Rows: 1, Cols: 1, L: []api.Value{}}} {
		same(t, maths.Good(a), false, "Good", a)
		same(t, maths.One(a), of("#VALUE!"), "One", a)
	}
}

// The examples of the chapter.
func TestExamples(t *testing.T) {
	rows(t, []row{
		{"ROUND", with(2.5, 0), 3}, {"EVEN", with(-1.5), -2}, {"MOD", with(-7, 3), 2}, {"BASE", with(255, 16), "FF"}, {"GCD", with(12, 18), 6}, {"ABS", nil, "#VALUE!"}, {"ABS", with("x"), "#VALUE!"},
	})
}
