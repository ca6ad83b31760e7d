package names_test

import (
	"math/rand"
	"slices"
	"testing"

	"octavo/api"
	"octavo/names"
)

// P11.2: Define

func TestDefineOfTheExample(t *testing.T) {
	refuses(t, listed(names.Define(nil, name("", "A1", "1"))), api.ErrName, "Define")
}

func TestDefineOfTheFirst(t *testing.T) {
	for _, x := range some() {
		answers(t, listed(names.Define(nil, x)), []api.Name{x}, "Define", x)
		answers(t, listed(names.Define([]api.Name{}, x)), []api.Name{x}, "Define", x)
	}
}

// TestDefineInItsPlace: each name of a list, defined when the others are there: ahead of all, between two, behind all.
func TestDefineInItsPlace(t *testing.T) {
	for _, l := range [][]api.Name{some(), some()[:1], some()[:2], numbered("", api.MaxNames), numbered("Jan", api.MaxNames-1)} {
		for i, x := range l {
			answers(t, listed(names.Define(slices.Concat(l[:i], l[i+1:]), x)), l, "Define", x)
		}
	}
}

// TestDefineOfNear: names, and Scopes, that differ little, in all places.
func TestDefineOfNear(t *testing.T) {
	var l, scoped []api.Name
	for _, s := range near() {
		l, scoped = append(l, name("Jan", s, "1")), append(scoped, name(s, "tax", "1"))
	}
	for _, l := range [][]api.Name{l, scoped} {
		for i, x := range l {
			answers(t, listed(names.Define(slices.Concat(l[:i], l[i+1:]), x)), l, "Define", x)
		}
	}
}

// TestDefineInTheOthersPlace: the text is another one, and all else stays, when there are few, MaxNames, or more.
func TestDefineInTheOthersPlace(t *testing.T) {
	for _, l := range [][]api.Name{some(), some()[:1], numbered("", api.MaxNames-1), numbered("", api.MaxNames), numbered("Jan", api.MaxNames+1), numbered("Jan", 60)} {
		for i, x := range l {
			answers(t, listed(names.Define(l, x)), l, "Define of what is there", x)
			x.Text = "2*" + x.Text
			want := slices.Clone(l)
			want[i] = x
			answers(t, listed(names.Define(l, x)), want, "Define", x)
		}
	}
}

// TestDefineOfOneScopeAlone: names of others that are called so stay.
func TestDefineOfOneScopeAlone(t *testing.T) {
	l := []api.Name{name("", "tax", "1"), name("Feb", "tax", "2"), name("Jan", "tax", "3")}
	answers(t, listed(names.Define(l, name("", "tax", "4"))), []api.Name{name("", "tax", "4"), l[1], l[2]}, "Define")
	answers(t, listed(names.Define(l, name("Jan", "tax", "4"))), []api.Name{l[0], l[1], name("Jan", "tax", "4")}, "Define")
	answers(t, listed(names.Define(l, name("jan", "tax", "4"))), append(slices.Clone(l), name("jan", "tax", "4")), "Define")
	answers(t, listed(names.Define(l, name("Jan", "Tax", "4"))), []api.Name{l[0], l[1], name("Jan", "Tax", "4"), l[2]}, "Define")
	answers(t, listed(names.Define(l, name("", "Tax", "4"))), append([]api.Name{name("", "Tax", "4")}, l...), "Define")
}

// TestDefineOfSeveral: in a list that rises, but not strictly, the first one counts.
func TestDefineOfSeveral(t *testing.T) {
	l := []api.Name{name("", "a", "1"), name("", "tax", "2"), name("", "tax", "3"), name("", "tax", "4"), name("", "z", "5")}
	x := name("", "tax", "6")
	answers(t, listed(names.Define(l, x)), []api.Name{l[0], x, l[2], l[3], l[4]}, "Define", l)
	x = name("", "taxa", "6")
	answers(t, listed(names.Define(l, x)), []api.Name{l[0], l[1], l[2], l[3], x, l[4]}, "Define", l)
}

func TestDefineOfTooMany(t *testing.T) {
	for _, n := range []int{api.MaxNames - 2, api.MaxNames - 1, api.MaxNames, api.MaxNames + 1, 60} {
		l := numbered("Jan", n)
		for _, x := range []api.Name{name("", "tax", "1"), name("Jan", "tax", "1"), name("Jan", "x_00_", "1"), name("Jan", "X_00", "1"), name("jan", "x_00", "1"), name("", "x_00", "1"), name("z", "z", "1")} {
			got := listed(names.Define(l, x))
			if n >= api.MaxNames {
				refuses(t, got, api.ErrRange, "Define", n, x)
				continue
			}
			answers(t, got, laid(setOf(append(slices.Clone(l), x))), "Define", n, x)
		}
	}
}

func TestDefineOfTexts(t *testing.T) {
	for _, s := range goodTexts() {
		for _, scope := range []string{"", "Jan"} {
			answers(t, listed(names.Define(nil, name(scope, "tax", s))), []api.Name{name(scope, "tax", s)}, "Define", s)
		}
	}
	for _, s := range noTexts() {
		refuses(t, listed(names.Define(nil, name("", "tax", s))), api.ErrForm, "Define", s)
		refuses(t, listed(names.Define(some(), name("Jan", "tax", s))), api.ErrForm, "Define", s)
	}
	for _, s := range longTexts() {
		refuses(t, listed(names.Define(nil, name("", "tax", s))), api.ErrText, "Define", s)
		refuses(t, listed(names.Define(some(), name("Jan", "tax", s))), api.ErrText, "Define", s)
	}
}

// TestDefineOfEachLength: of texts that are formulas, whatever their length.
func TestDefineOfEachLength(t *testing.T) {
	blanks := make([]byte, 300)
	for i := range blanks {
		blanks[i] = ' '
	}
	for n := range 300 {
		x := name("", "tax", string(blanks[:n])+"7")
		if got := listed(names.Define(nil, x)); n+1 > 255 {
			refuses(t, got, api.ErrText, "Define", n+1)
		} else {
			answers(t, got, []api.Name{x}, "Define", n+1)
		}
	}
}

func TestDefineOfNames(t *testing.T) {
	for _, s := range near() {
		for _, x := range []api.Name{name("", s, "1"), name(s, "tax", "1"), name(s, s, "1")} {
			answers(t, listed(names.Define(nil, x)), []api.Name{x}, "Define", x)
		}
	}
	for _, s := range noNames() {
		for _, x := range []api.Name{name("", s, "1"), name("Jan", s, "1"), name(s, "tax", "1"), name(s, s, "1")} {
			refuses(t, listed(names.Define(nil, x)), api.ErrName, "Define", x)
			refuses(t, listed(names.Define(some(), x)), api.ErrName, "Define", x)
			refuses(t, listed(names.Define([]api.Name{x}, x)), api.ErrName, "Define of what is there", x)
		}
	}
	// A scope may be empty, a name may not.
	refuses(t, listed(names.Define(nil, name("", "", "1"))), api.ErrName, "Define")
	refuses(t, listed(names.Define(nil, name("Jan", "", "1"))), api.ErrName, "Define")
}

// TestDefineOfTwoErrors: each with those that come behind it.
func TestDefineOfTwoErrors(t *testing.T) {
	full := numbered("", api.MaxNames)
	wrong := []api.Name{name("", "A1", ""), name("", "", ""), name("A1", "tax", ""), name("A1", "TRUE", "")}
	for _, l := range [][]api.Name{nil, some(), full} {
		for _, long := range longTexts() {
			for _, x := range append(wrong, name("", "tax", ""), name("Jan", "new", "")) {
				x.Text = long
				refuses(t, listed(names.Define(l, x)), api.ErrText, "Define", x)
			}
		}
		for _, text := range append(noTexts(), "1") {
			for _, x := range wrong {
				x.Text = text
				refuses(t, listed(names.Define(l, x)), api.ErrName, "Define", x)
			}
		}
		for _, text := range noTexts() {
			refuses(t, listed(names.Define(l, name("Jan", "new", text))), api.ErrForm, "Define", text)
		}
	}
	refuses(t, listed(names.Define(full, name("Jan", "new", "1"))), api.ErrRange, "Define")
	// What is there is none too many, but may have other errors.
	refuses(t, listed(names.Define(full, name("", "x_00", ""))), api.ErrForm, "Define")
	answers(t, listed(names.Define(full, full[0])), full, "Define")
}

// P11.2: Remove

// TestRemove: each of a list: the first, the last, the only one, and those between.
func TestRemove(t *testing.T) {
	for _, l := range [][]api.Name{some(), some()[:1], some()[:2], numbered("", api.MaxNames), numbered("Jan", api.MaxNames+1)} {
		for i, x := range l {
			answers(t, listed(names.Remove(l, x.Scope, x.Name)), slices.Concat(l[:i], l[i+1:]), "Remove", x)
		}
	}
}

func TestRemoveOfNone(t *testing.T) {
	for _, x := range [][2]string{{"", ""}, {"", "Tax"}, {"", "TAX"}, {"", "ta"}, {"", "taxa"}, {"", "base"}, {"Jan", ""}, {"Jan", "rate"}, {"JAN", "tax"}, {"jan", "tax"}, {"Ja", "ntax"}, {"Mar", "tax"}, {"z", "z"}, {"", "a"}, {"", "A1"}, {"A1", "tax"}, {"TRUE", "\xff"}} {
		refuses(t, listed(names.Remove(some(), x[0], x[1])), api.ErrNone, "Remove", x)
		refuses(t, listed(names.Remove(nil, x[0], x[1])), api.ErrNone, "Remove", x)
		refuses(t, listed(names.Remove([]api.Name{}, x[0], x[1])), api.ErrNone, "Remove", x)
	}
	// A sheet's name is not the book's, which it would mean there.
	refuses(t, listed(names.Remove([]api.Name{name("", "tax", "1")}, "Jan", "tax")), api.ErrNone, "Remove")
	refuses(t, listed(names.Remove([]api.Name{name("Jan", "tax", "1")}, "", "tax")), api.ErrNone, "Remove")
}

// TestRemoveOfNear: names, and Scopes, that differ little, are not taken for each other.
func TestRemoveOfNear(t *testing.T) {
	for i := range near() {
		var l, scoped []api.Name
		for j, s := range near() {
			if i != j {
				l, scoped = append(l, name("Jan", s, "1")), append(scoped, name(s, "tax", "1"))
			}
		}
		refuses(t, listed(names.Remove(l, "Jan", near()[i])), api.ErrNone, "Remove", near()[i])
		refuses(t, listed(names.Remove(scoped, near()[i], "tax")), api.ErrNone, "Remove", near()[i])
	}
}

// TestRemoveOfSeveral: in a list that rises, but not strictly, the first one goes.
func TestRemoveOfSeveral(t *testing.T) {
	l := []api.Name{name("", "a", "1"), name("", "tax", "2"), name("", "tax", "3"), name("", "z", "5")}
	answers(t, listed(names.Remove(l, "", "tax")), []api.Name{l[0], l[2], l[3]}, "Remove", l)
}

// TestRemoveOfWhatMayNotBe: Remove does not ask whether names are good.
func TestRemoveOfWhatMayNotBe(t *testing.T) {
	for _, s := range noNames() {
		l := []api.Name{name("", s, "("), name(s, "", "")}
		answers(t, listed(names.Remove(l, "", s)), l[1:], "Remove", s)
		answers(t, listed(names.Remove(l, s, "")), l[:1], "Remove", s)
	}
}

// P11.2: Drop

func TestDrop(t *testing.T) {
	l := some()
	alike(t, names.Drop(l, "Jan"), []api.Name{l[0], l[1], l[2], l[5]}, "Drop Jan")
	alike(t, names.Drop(l, "Feb"), []api.Name{l[0], l[1], l[3], l[4], l[5]}, "Drop Feb")
	alike(t, names.Drop(l, "jan"), l[:5], "Drop jan")
	// The empty one's are the book's.
	alike(t, names.Drop(l, ""), l[2:], "Drop")
	for _, sheet := range []string{"JAN", "Ja", "Jan ", "Jan\x00", "tax", "rate", "Mar", "A1", "\xff"} {
		alike(t, names.Drop(l, sheet), l, "Drop", sheet)
		alike(t, names.Drop(nil, sheet), nil, "Drop", sheet)
		alike(t, names.Drop([]api.Name{}, sheet), nil, "Drop", sheet)
	}
	alike(t, names.Drop(nil, ""), nil, "Drop of nothing")
}

func TestDropOfAll(t *testing.T) {
	for _, scope := range []string{"", "Jan", "A1", "\xff"} {
		for _, n := range []int{1, 2, api.MaxNames, 60} {
			alike(t, names.Drop(numbered(scope, n), scope), nil, "Drop", scope, n)
			alike(t, names.Drop(numbered(scope, n), "Feb"), numbered(scope, n), "Drop", scope, n)
		}
	}
}

// TestDropInAnyOrder: the others stay in theirs.
func TestDropInAnyOrder(t *testing.T) {
	for _, l := range orders(some()) {
		for _, sheet := range []string{"", "Jan", "Feb", "jan", "Mar"} {
			want := slices.DeleteFunc(slices.Clone(l), func(x api.Name) bool { return x.Scope == sheet })
			alike(t, names.Drop(l, sheet), want, "Drop", l, sheet)
		}
	}
}

// TestChangesOfManyLists: held against a set of names.
func TestChangesOfManyLists(t *testing.T) {
	r := rand.New(rand.NewSource(2))
	counts := map[api.Errno]int{}
	for range 1000 {
		var l []api.Name
		set := map[string]api.Name{}
		for range 80 {
			x := anyName(r)
			switch _, there := set[key(x)]; r.Intn(8) {
			case 0:
				got := listed(names.Remove(l, x.Scope, x.Name))
				counts[got.e]++
				if !there {
					refuses(t, got, api.ErrNone, "Remove", l, x)
					continue
				}
				delete(set, key(x))
				answers(t, got, laid(set), "Remove", l, x)
				l = got.l
			case 1:
				if r.Intn(8) > 0 {
					continue
				}
				for _, y := range laid(set) {
					if y.Scope == x.Scope {
						delete(set, key(y))
					}
				}
				alike(t, names.Drop(l, x.Scope), laid(set), "Drop", l, x.Scope)
				l = names.Drop(l, x.Scope)
			default:
				got := listed(names.Define(l, x))
				counts[got.e]++
				if !there && len(set) >= api.MaxNames {
					refuses(t, got, api.ErrRange, "Define", l, x)
					continue
				}
				set[key(x)] = x
				answers(t, got, laid(set), "Define", l, x)
				l = got.l
			}
		}
	}
	for _, e := range []api.Errno{api.OK, api.ErrNone, api.ErrRange} {
		if counts[e] < 1000 {
			t.Fatalf("only %d answers %d", counts[e], e)
		}
	}
}
