package names_test

import (
	"math/rand"
	"slices"
	"strings"
	"testing"

	"octavo/api"
	"octavo/names"
)

// P11.3

func TestCheck(t *testing.T) {
	right(t, nil)
	right(t, []api.Name{})
	right(t, some())
	for n := range some() {
		right(t, some()[:n])
		right(t, some()[n:])
	}
	for n := range api.MaxNames + 1 {
		right(t, numbered("", n))
		right(t, numbered("Jan", n))
	}
	for _, s := range goodTexts() {
		right(t, []api.Name{name("", "tax", s), name("Jan", "tax", s)})
	}
	for _, s := range near() {
		right(t, []api.Name{name("", s, "1"), name(s, s, "1")})
	}
	var l, scoped []api.Name
	for _, s := range near() {
		l, scoped = append(l, name("", s, "1")), append(scoped, name(s, "tax", "1"))
	}
	right(t, l)
	right(t, scoped)
}

// TestCheckOfOneThatIsWrong: in each place of a list.
func TestCheckOfOneThatIsWrong(t *testing.T) {
	wrong := func(x api.Name, want api.Errno) {
		t.Helper()
		same(t, names.Check([]api.Name{x}), want, "Check", x)
		for i := range some() {
			l := some()
			l[i] = x
			same(t, names.Check(l), want, "Check", l)
		}
	}
	for _, s := range longTexts() {
		wrong(name("", "tax", s), api.ErrText)
		wrong(name("A1", "", s), api.ErrText)
	}
	for _, s := range noNames() {
		wrong(name("", s, "1"), api.ErrName)
		wrong(name("Jan", s, "1"), api.ErrName)
		wrong(name(s, "tax", "1"), api.ErrName)
		wrong(name(s, s, ""), api.ErrName)
	}
	wrong(name("", "", "1"), api.ErrName)
	wrong(name("Jan", "", "1"), api.ErrName)
	wrong(api.Name{}, api.ErrName)
	for _, s := range noTexts() {
		wrong(name("", "tax", s), api.ErrForm)
		wrong(name("Jan", "tax", s), api.ErrForm)
	}
}

func TestCheckOfTooMany(t *testing.T) {
	for _, n := range []int{api.MaxNames + 1, api.MaxNames + 2, 64, 99} {
		same(t, names.Check(numbered("", n)), api.ErrRange, "Check", n)
		same(t, names.Check(numbered("Jan", n)), api.ErrRange, "Check", n)
	}
	// Of several scopes they are counted together.
	same(t, names.Check(append(numbered("", 16), numbered("Jan", 16)...)), api.OK, "Check")
	same(t, names.Check(append(numbered("", 16), numbered("Jan", 17)...)), api.ErrRange, "Check")
}

// TestCheckOfOrders: of all orders of a list one rises.
func TestCheckOfOrders(t *testing.T) {
	for _, l := range orders(some()) {
		want := api.ErrRange
		if slices.Equal(l, some()) {
			want = api.OK
		}
		same(t, names.Check(l), want, "Check", l)
	}
}

// TestCheckOfTwoTurnedRound: in each place of a full list.
func TestCheckOfTwoTurnedRound(t *testing.T) {
	for i := range api.MaxNames - 1 {
		l := numbered("", api.MaxNames)
		l[i], l[i+1] = l[i+1], l[i]
		same(t, names.Check(l), api.ErrRange, "Check", i)
	}
}

// TestCheckOfOneTwice: with the same text or another one, side by side or not.
func TestCheckOfOneTwice(t *testing.T) {
	for i, x := range some() {
		for _, text := range []string{x.Text, "7"} {
			twin := name(x.Scope, x.Name, text)
			same(t, names.Check([]api.Name{x, twin}), api.ErrRange, "Check", x, twin)
			for j := range len(some()) + 1 {
				same(t, names.Check(slices.Insert(some(), j, twin)), api.ErrRange, "Check", i, j)
			}
		}
	}
}

func TestCheckOfNearThatFall(t *testing.T) {
	for i, a := range near() {
		for j, b := range near() {
			want := api.OK
			if i >= j {
				want = api.ErrRange
			}
			same(t, names.Check([]api.Name{name("", a, "1"), name("", b, "1")}), want, "Check", a, b)
			same(t, names.Check([]api.Name{name(a, "tax", "1"), name(b, "tax", "1")}), want, "Check", a, b)
			if i != j {
				same(t, names.Check([]api.Name{name(a, "z", "1"), name(b, "A", "1")}), want, "Check", a, b)
			}
		}
	}
}

// TestCheckOfTwoErrors: what is wrong with one name counts ahead of a list that is too long or does not rise, wherever it stands.
func TestCheckOfTwoErrors(t *testing.T) {
	faults := map[api.Errno]api.Name{api.ErrText: name("A1", "", strings.Repeat("(", 256)), api.ErrName: name("Jan", "TRUE", ""), api.ErrForm: name("Jan", "tax", "1+")}
	for e, x := range faults {
		falling := some()
		slices.Reverse(falling)
		for _, l := range [][]api.Name{numbered("", 33), numbered("Jan", 99), falling, append(some(), some()...), append(numbered("", 40), falling...)} {
			for i := range len(l) + 1 {
				same(t, names.Check(slices.Insert(slices.Clone(l), i, x)), e, "Check", i, x)
			}
		}
	}
}

// TestCheckOfSeveralThatAreWrong: the first one's first error counts, whatever those behind it have.
func TestCheckOfSeveralThatAreWrong(t *testing.T) {
	long, bad, form := name("", "tax", longTexts()[0]), name("", "A1", "1"), name("", "tax", "1+")
	errors := map[api.Name]api.Errno{long: api.ErrText, bad: api.ErrName, form: api.ErrForm}
	for _, l := range orders([]api.Name{long, bad, form}) {
		same(t, names.Check(l), errors[l[0]], "Check", l)
		same(t, names.Check(append(numbered("", 5), l...)), errors[l[0]], "Check", l)
	}
}

// TestCheckIsAsDefine: of any lists, held against what Define says of each name.
func TestCheckIsAsDefine(t *testing.T) {
	r := rand.New(rand.NewSource(3))
	counts := map[api.Errno]int{}
	for range 8000 {
		l := rising(r)
		switch r.Intn(4) {
		case 0:
			l = append(l, wild(r)...)
		case 1:
			for range r.Intn(3) {
				l = slices.Insert(l, r.Intn(len(l)+1), anyName(r))
			}
		}
		want := api.OK
		for _, x := range l {
			if _, e := names.Define(nil, x); e != api.OK {
				want = e
				break
			}
		}
		strict := len(setOf(l)) == len(l) && slices.IsSortedFunc(l, ordered)
		if want == api.OK && (len(l) > 32 || !strict) {
			want = api.ErrRange
		}
		same(t, names.Check(l), want, "Check", l)
		counts[want]++
	}
	for _, e := range []api.Errno{api.OK, api.ErrText, api.ErrName, api.ErrForm, api.ErrRange} {
		if counts[e] < 100 {
			t.Fatalf("only %d answers %d", counts[e], e)
		}
	}
}
