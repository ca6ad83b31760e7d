package names_test

import (
	"math/rand"
	"testing"

	"octavo/api"
	"octavo/names"
)

// P11.4

func TestCheckOfDefineIsOK(t *testing.T) {
	r := rand.New(rand.NewSource(4))
	defined := 0
	for range 8000 {
		l, x := rising(r), anyName(r)
		right(t, l)
		after, e := names.Define(l, x)
		if e != api.OK {
			same(t, e, api.ErrRange, "Define", l, x)
			continue
		}
		right(t, after)
		same(t, asked(names.Find(after, x.Scope, x.Name)), maybe{x, true}, "Find behind Define", l, x)
		same(t, asked(names.Resolve(after, x.Scope, x.Name)), maybe{x, true}, "Resolve behind Define", l, x)
		// All others are as they were.
		for _, y := range l {
			if key(y) != key(x) {
				same(t, asked(names.Find(after, y.Scope, y.Name)), maybe{y, true}, "Find behind Define", l, x, y)
			}
		}
		defined++
	}
	if defined < 6000 {
		t.Fatalf("only %d were defined", defined)
	}
}

// TestCheckOfDefineUpToTheEnd: from no names to MaxNames, in many orders, and then of each again.
func TestCheckOfDefineUpToTheEnd(t *testing.T) {
	r := rand.New(rand.NewSource(5))
	all := append(numbered("", 16), numbered("Jan", 16)...)
	for range 200 {
		var l []api.Name
		for _, i := range r.Perm(len(all)) {
			var e api.Errno
			l, e = names.Define(l, all[i])
			same(t, e, api.OK, "Define", all[i])
			right(t, l)
			same(t, asked(names.Find(l, all[i].Scope, all[i].Name)), maybe{all[i], true}, "Find", all[i])
		}
		alike(t, l, all, "all names")
		refuses(t, listed(names.Define(l, anyName(r))), api.ErrRange, "Define of one more")
		for _, i := range r.Perm(len(all)) {
			x := all[i]
			x.Text = "0"
			after, e := names.Define(l, x)
			same(t, e, api.OK, "Define", x)
			right(t, after)
			same(t, asked(names.Find(after, x.Scope, x.Name)), maybe{x, true}, "Find", x)
		}
	}
}

// TestRemoveOfDefineIsTheList: and Check takes what Remove and Drop leave.
func TestRemoveOfDefineIsTheList(t *testing.T) {
	r := rand.New(rand.NewSource(6))
	for range 10000 {
		l, x := rising(r), anyName(r)
		right(t, names.Drop(l, x.Scope))
		if _, there := names.Find(l, x.Scope, x.Name); there {
			left, e := names.Remove(l, x.Scope, x.Name)
			same(t, e, api.OK, "Remove", l, x)
			right(t, left)
			same(t, asked(names.Find(left, x.Scope, x.Name)), none, "Find behind Remove", l, x)
			continue
		}
		after, e := names.Define(l, x)
		if e == api.OK {
			answers(t, listed(names.Remove(after, x.Scope, x.Name)), l, "Remove of Define", l, x)
		}
	}
}
