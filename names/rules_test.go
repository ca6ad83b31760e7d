package names_test

import (
	"fmt"
	"math/rand"
	"slices"
	"strings"
	"testing"

	"octavo/api"
	"octavo/names"
)

// all: what every call answers, told to see.
func all(see func(what, answer string)) {
	r := rand.New(rand.NewSource(7))
	long := make([]api.Name, 1<<16)
	lists := [][]api.Name{nil, {}, {{}}, make([]api.Name, 100), long, some(), {name(strings.Repeat("a", 1<<20), strings.Repeat("\xff", 1<<20), strings.Repeat("(", 1<<20))}}
	for range 1000 {
		lists = append(lists, wild(r), rising(r))
	}
	for i, l := range lists {
		for j, x := range []api.Name{anyName(r), wildName(r), wildName(r), {}, name("Jan", "tax", "1")} {
			s := fmt.Sprint(names.Cmp(x, name("Jan", "tax", "1")), names.Check(l))
			s += fmt.Sprint(asked(names.Find(l, x.Scope, x.Name)), asked(names.Resolve(l, x.Scope, x.Name)))
			s += fmt.Sprint(listed(names.Define(l, x)), listed(names.Remove(l, x.Scope, x.Name)), names.Drop(l, x.Scope))
			see(fmt.Sprint(i, " ", j), short(s))
		}
	}
}

// short: a text that is long, cut, with a sum of it all.
func short(s string) string {
	if len(s) < 200 {
		return s
	}
	sum := uint64(14695981039346656037)
	for _, c := range []byte(s) {
		sum = (sum ^ uint64(c)) * 1099511628211
	}
	return fmt.Sprint(len(s), " ", sum)
}

// R1, R4: nothing panics, also of lists that do not rise, and the same arguments are answered the same.

func TestCallsAnswerTheSameAgain(t *testing.T) {
	was := map[string]string{}
	all(func(what, answer string) { was[what] = answer })
	all(func(what, answer string) {
		if was[what] != answer {
			t.Fatalf("%s: %s, then %s", what, was[what], answer)
		}
	})
	if len(was) < 10000 {
		t.Fatalf("only %d calls", len(was))
	}
}

// R2, R7: beside an error, and beside a false, there is nothing.

func TestBesideAnErrorIsNothing(t *testing.T) {
	r := rand.New(rand.NewSource(8))
	refused, unfound := 0, 0
	for range 20000 {
		l, x := wild(r), wildName(r)
		for _, got := range []list{listed(names.Define(l, x)), listed(names.Remove(l, x.Scope, x.Name))} {
			if got.e != api.OK {
				same(t, len(got.l), 0, "beside an error", l, x)
				refused++
			}
		}
		for _, got := range []maybe{asked(names.Find(l, x.Scope, x.Name)), asked(names.Resolve(l, x.Scope, x.Name))} {
			if !got.ok {
				same(t, got, none, "beside a false", l, x)
				unfound++
			}
		}
	}
	if refused < 10000 || unfound < 10000 {
		t.Fatalf("only %d were refused, and %d not found", refused, unfound)
	}
}

// behind: what lies in the room behind a list's end.
var behind = name("Behind", "behind", "9")

// roomy: l with room behind its end, which is filled.
func roomy(l []api.Name) []api.Name {
	with := slices.Clone(l)
	for range 3 {
		with = append(with, behind)
	}
	return with[:len(l):len(with)]
}

// kept: is l as want, and what lies behind its end as roomy filled it?
func kept(t *testing.T, l, want []api.Name, what string, args ...any) {
	t.Helper()
	alike(t, l[:cap(l)], append(slices.Clone(want), behind, behind, behind), what, args...)
}

// scribble: l is written over, with its spare room.
func scribble(l []api.Name) {
	l = l[:cap(l)]
	for i := range l {
		l[i] = name("Changed", "changed", "8")
	}
}

// changes: each call that answers a list, done with l.
func changes(x api.Name) map[string]func(l []api.Name) list {
	return map[string]func(l []api.Name) list{
		"Define": func(l []api.Name) list { return listed(names.Define(l, x)) },
		"Remove": func(l []api.Name) list { return listed(names.Remove(l, x.Scope, x.Name)) },
		"Drop":   func(l []api.Name) list { return list{names.Drop(l, x.Scope), api.OK} },
	}
}

// R3: what is handed in is not changed, nor what lies behind its end.

func TestCallsChangeNothing(t *testing.T) {
	r := rand.New(rand.NewSource(9))
	for range 5000 {
		want, x := rising(r), anyName(r)
		if len(want) > 0 && r.Intn(2) == 0 {
			y := want[r.Intn(len(want))]
			x.Scope, x.Name = y.Scope, y.Name
		}
		l := roomy(want)
		for what, do := range changes(x) {
			do(l)
			kept(t, l, want, what, x)
		}
		names.Find(l, x.Scope, x.Name)
		names.Resolve(l, x.Scope, x.Name)
		names.Check(l)
		kept(t, l, want, "Find, Resolve, Check", x)
	}
}

// R3: an answer is new memory, with its spare room; what is done with it or with what was handed in is not seen in the other.

func TestAnswersAreNewMemory(t *testing.T) {
	r := rand.New(rand.NewSource(10))
	for range 5000 {
		want, x := rising(r), anyName(r)
		if len(want) > 0 && r.Intn(2) == 0 {
			y := want[r.Intn(len(want))]
			x.Scope, x.Name = y.Scope, y.Name
		}
		for what, do := range changes(x) {
			l := roomy(want)
			one, two := do(l), do(l)
			told := slices.Clone(one.l)
			scribble(two.l)
			kept(t, l, want, what+", and its answer is changed", x)
			alike(t, one.l, told, what+", and another answer is changed", x)
			scribble(l)
			alike(t, one.l, told, what+", and what was handed in is changed", x)
		}
	}
}

// TestAnswersThatAreTheList: where nothing goes, where the first or the last goes, and where what is defined was there.
func TestAnswersThatAreTheList(t *testing.T) {
	for what, do := range map[string]func(l []api.Name) list{
		"Drop of none":         func(l []api.Name) list { return list{names.Drop(l, "Mar"), api.OK} },
		"Drop of the first":    func(l []api.Name) list { return list{names.Drop(l, ""), api.OK} },
		"Drop of the last":     func(l []api.Name) list { return list{names.Drop(l, "jan"), api.OK} },
		"Remove of the first":  func(l []api.Name) list { return listed(names.Remove(l, "", "rate")) },
		"Remove of the last":   func(l []api.Name) list { return listed(names.Remove(l, "jan", "Tax")) },
		"Define of what is":    func(l []api.Name) list { return listed(names.Define(l, l[2])) },
		"Define ahead of all":  func(l []api.Name) list { return listed(names.Define(l, name("", "a", "1"))) },
		"Define behind all":    func(l []api.Name) list { return listed(names.Define(l, name("z", "z", "1"))) },
		"Define of the last":   func(l []api.Name) list { return listed(names.Define(l, name("jan", "Tax", "1"))) },
		"Define between two":   func(l []api.Name) list { return listed(names.Define(l, name("Jan", "c", "1"))) },
		"Define of the middle": func(l []api.Name) list { return listed(names.Define(l, name("Feb", "tax", "1"))) },
	} {
		l := roomy(some())
		got := do(l)
		same(t, got.e, api.OK, what)
		told := slices.Clone(got.l)
		scribble(l)
		alike(t, got.l, told, what)
		l = roomy(some())
		got = do(l)
		scribble(got.l)
		kept(t, l, some(), what)
	}
}
