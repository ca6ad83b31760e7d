package files_test

import (
	"fmt"
	"math"
	"testing"

	"octavo/api"
	"octavo/files"
)

// two: a file with 3 bytes synced and 2 that are not, and one with none synced of 3.
func two(t *testing.T) *files.World {
	t.Helper()
	w := files.New()
	ok(t, w.Create("a"), w.Append("a", []byte("xyz")), w.Sync("a"), w.Append("a", []byte("pq")))
	ok(t, w.Create("b"), w.Append("b", []byte("123")))
	return w
}

// P1.3

func TestCutAtEachOperation(t *testing.T) {
	cuts := []struct {
		name    string
		do      func(w *files.World) api.Errno
		a       string // what is kept of a, with keep 1
		written int
	}{
		{"Create anew", func(w *files.World) api.Errno { return w.Create("a") }, "xyzp", 8},
		{"Create", func(w *files.World) api.Errno { return w.Create("c") }, "xyzp", 8},
		{"Append", func(w *files.World) api.Errno { return w.Append("a", []byte("r")) }, "xyzp", 9},
		{"Sync", func(w *files.World) api.Errno { return w.Sync("a") }, "xyzp", 8},
		{"Rename", func(w *files.World) api.Errno { return w.Rename("a", "c") }, "xyzp", 8},
		{"Rename over", func(w *files.World) api.Errno { return w.Rename("a", "b") }, "xyzp", 8},
		{"Rename to itself", func(w *files.World) api.Errno { return w.Rename("a", "a") }, "xyzp", 8},
		{"Remove", func(w *files.World) api.Errno { return w.Remove("a") }, "xyzp", 8},
	}
	for _, c := range cuts {
		t.Run(c.name, func(t *testing.T) {
			w := two(t)
			ok(t, w.Cut(1, 1))
			want(t, "the cut", c.do(w), api.ErrPower)
			if w.On() {
				t.Fatal("the power is on behind a cut")
			}
			counted(t, w, 7, c.written)
			w.Power()
			if !w.On() {
				t.Fatal("the power is off behind Power")
			}
			named(t, w, "a", "b")
			holds(t, w, "a", c.a, len(c.a))
			holds(t, w, "b", "1", 1)
			ok(t, c.do(w)) // no cut is planned any more
			counted(t, w, 8, c.written+c.written-8)
		})
	}
}

func TestCutAppendLaysItsBytesDown(t *testing.T) {
	for keep, kept := range []string{"xyz", "xyzp", "xyzpq", "xyzpqr", "xyzpqrs", "xyzpqrs"} {
		w := two(t)
		ok(t, w.Cut(1, keep))
		want(t, "the cut", w.Append("a", []byte("rs")), api.ErrPower)
		w.Power()
		holds(t, w, "a", kept, len(kept))
	}
}

func TestCutKeepsOfEachFile(t *testing.T) {
	keeps := []struct {
		keep int
		a, b string
	}{
		{0, "xyz", ""}, {1, "xyzp", "1"}, {2, "xyzpq", "12"}, {3, "xyzpq", "123"}, {4, "xyzpq", "123"},
		{math.MaxInt - 1, "xyzpq", "123"}, {math.MaxInt, "xyzpq", "123"},
	}
	for _, k := range keeps {
		w := two(t)
		ok(t, w.Cut(1, k.keep))
		want(t, "the cut", w.Sync("a"), api.ErrPower)
		w.Power()
		holds(t, w, "a", k.a, len(k.a))
		holds(t, w, "b", k.b, len(k.b))
		ok(t, w.Append("a", []byte("!")))
		holds(t, w, "a", k.a+"!", len(k.a)) // what was lost does not come back
	}
}

func TestCutCountsOperationsFromHereOn(t *testing.T) {
	for n := 1; n <= 6; n++ {
		w := two(t)
		ok(t, w.Cut(n, 0))
		for i := 1; i < n; i++ {
			ok(t, w.Append("b", []byte("4")))
			want(t, "no operation: no such file", w.Append("none", nil), api.ErrNone)
			want(t, "no operation: no good name", w.Create(""), api.ErrName)
			ok(t, w.Place("p", nil))
			w.Power()
		}
		want(t, fmt.Sprintf("operation %d", n), w.Append("b", nil), api.ErrPower)
		w.Power()
		for range 10 {
			ok(t, w.Append("b", nil))
		}
		counted(t, w, 6+n+10, 8+n-1)
	}
}

func TestCutOfNothing(t *testing.T) {
	w := two(t)
	ok(t, w.Cut(1, 0), w.Cut(0, 0))
	ok(t, w.Sync("b"))
	ok(t, w.Cut(0, 7), w.Sync("b"), w.Cut(2, 0), w.Sync("b"), w.Cut(0, 0), w.Sync("b"))
	if !w.On() {
		t.Error("the power is off")
	}
}

func TestTheLastCutCounts(t *testing.T) {
	w := two(t)
	ok(t, w.Cut(1, 0), w.Cut(3, 2), w.Sync("a"), w.Sync("a"))
	want(t, "the third", w.Sync("a"), api.ErrPower)
	w.Power()
	holds(t, w, "b", "12", 2)
	ok(t, w.Cut(3, 0), w.Sync("a"), w.Cut(1, 0))
	want(t, "the first", w.Sync("a"), api.ErrPower)
	w.Power()
	ok(t, w.Sync("a"), w.Sync("a"), w.Sync("a"))
}

func TestCutOfWhatMayNotBe(t *testing.T) {
	w := two(t)
	ok(t, w.Cut(2, 1))
	for _, p := range [][2]int{{-1, 0}, {0, -1}, {1, -1}, {-1, -1}, {math.MinInt, 0}, {0, math.MinInt}, {math.MaxInt, -1}} {
		want(t, fmt.Sprint("Cut", p), w.Cut(p[0], p[1]), api.ErrArg)
	}
	ok(t, w.Sync("a"))
	want(t, "the cut that was planned", w.Sync("a"), api.ErrPower)
	want(t, "Cut without power", w.Cut(1, 0), api.ErrPower)
	want(t, "Cut without power of nothing", w.Cut(0, 0), api.ErrPower)
	want(t, "Cut without power of what may not be", w.Cut(-1, -1), api.ErrPower)
	w.Power()
	ok(t, w.Sync("a"), w.Sync("a"))
	holds(t, w, "b", "1", 1)
}

func TestCutFarAway(t *testing.T) {
	w := two(t)
	ok(t, w.Cut(math.MaxInt, math.MaxInt))
	for range 100 {
		ok(t, w.Sync("a"))
	}
	ok(t, w.Cut(math.MaxInt-1, 0), w.Sync("a"))
}

func TestPowerOfAWorldThatHasIt(t *testing.T) {
	w := two(t)
	ok(t, w.Cut(1, 2))
	was := look(w)
	w.Power()
	w.Power()
	if look(w) != was {
		t.Errorf("Power changed %s to %s", was, look(w))
	}
	want(t, "the cut is still planned", w.Sync("a"), api.ErrPower)
	w.Power()
	w.Power()
	holds(t, w, "b", "12", 2)
}

func TestExample(t *testing.T) {
	w := files.New()
	ok(t, w.Create("a"), w.Append("a", []byte("xyz")), w.Sync("a"), w.Append("a", []byte("pq")))
	holds(t, w, "a", "xyzpq", 3)
	ok(t, w.Cut(1, 1))
	want(t, "the cut", w.Append("a", []byte("r")), api.ErrPower)
	w.Power()
	holds(t, w, "a", "xyzp", 4)
	counted(t, w, 5, 6)
	ok(t, w.Rename("a", "b"))
	named(t, w, "b")
	if files.Good("") {
		t.Error(`Good("")`)
	}
}

// P1.4

func TestWhatWasSyncedStays(t *testing.T) {
	bytes := "abcdefghij"
	for synced := 0; synced <= len(bytes); synced++ {
		for keep := range 12 {
			w := files.New()
			ok(t, w.Create("a"), w.Append("a", []byte(bytes[:synced])), w.Sync("a"))
			ok(t, w.Append("a", []byte(bytes[synced:])), w.Rename("a", "b"), w.Create("a"))
			for range 3 { // behind the first failure all that is left is synced
				ok(t, w.Cut(1, keep))
				want(t, "the cut", w.Sync("a"), api.ErrPower)
				w.Power()
				n := min(synced+keep, len(bytes))
				holds(t, w, "b", bytes[:n], n)
				holds(t, w, "a", "", 0)
			}
		}
	}
}

func TestWhatWasCreatedAnewRenamedOverOrRemoved(t *testing.T) {
	w := files.New()
	ok(t, w.Place("new", []byte("old")), w.Place("over", []byte("old")), w.Place("gone", []byte("old")))
	ok(t, w.Create("new"), w.Append("new", []byte("no")))
	ok(t, w.Create("from"), w.Append("from", []byte("xyz")), w.Rename("from", "over"), w.Remove("gone"))
	ok(t, w.Cut(1, 1))
	want(t, "the cut", w.Create("gone"), api.ErrPower)
	w.Power()
	named(t, w, "new", "over")
	holds(t, w, "new", "n", 1)
	holds(t, w, "over", "x", 1)
}
