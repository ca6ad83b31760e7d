package files_test

import (
	"bytes"
	"fmt"
	"math"
	"reflect"
	"strings"
	"testing"

	"octavo/api"
	"octavo/files"
)

// odd: names that are good, and some that are not.
func odd() []string {
	return []string{"a", "b", "", " ", "\x7f", "\x00", "\xff", strings.Repeat("n", 24), strings.Repeat("n", 25), strings.Repeat("n", 1<<16), "a\nb", "ä"}
}

// R1

func TestNothingPanics(t *testing.T) {
	ends := []int{math.MinInt, -1, 0, 1, 2, math.MaxInt}
	blocks := [][]byte{nil, {}, {1}, much(api.MaxFile + 1)}
	for _, w := range []*files.World{nil, {}, files.New()} {
		for _, name := range odd() {
			for _, b := range blocks {
				for _, c := range naming(name, b) {
					c.do(w)
				}
				w.Place(name, b)
			}
			w.Rename(name, name)
			files.Good(name)
		}
		for _, n := range ends {
			for _, keep := range ends {
				w.Cut(n, keep)
				w.Create("a")
				w.Append("a", []byte("xyz"))
				w.Remove("a")
				w.Power()
			}
		}
		look(w)
	}
}

// R2

func TestNamesThatAreNotGood(t *testing.T) {
	for _, name := range odd() {
		if files.Good(name) {
			continue
		}
		w := two(t)
		was := look(w)
		for _, c := range append(naming(name, []byte("x")), naming(name, much(api.MaxFile+1))...) {
			want(t, fmt.Sprintf("%s %q", c.name, name), c.do(w), api.ErrName)
		}
		want(t, "both names wrong", w.Rename(name, name), api.ErrName)
		want(t, "no such file, to no good name", w.Rename("none", name), api.ErrName)
		want(t, "Place", w.Place(name, []byte("x")), api.ErrName)
		want(t, "Place of too much", w.Place(name, much(api.MaxFile+1)), api.ErrName)
		if look(w) != was {
			t.Errorf("%q changed %s to %s", name, was, look(w))
		}
	}
}

func TestSeveralThingsWrong(t *testing.T) {
	w := full(t)
	was := look(w)
	want(t, "no good name, and no room", w.Create(""), api.ErrName)
	want(t, "Place likewise", w.Place("", much(api.MaxFile+1)), api.ErrName)
	want(t, "no such file, and too much", w.Append("none", much(api.MaxFile+1)), api.ErrNone)
	want(t, "no room, and too much", w.Place("more", much(api.MaxFile+1)), api.ErrRange)
	want(t, "no such file, and a name that is not good", w.Rename("none", ""), api.ErrName)
	if look(w) != was {
		t.Errorf("%s became %s", was, look(w))
	}
}

func TestWithoutPower(t *testing.T) {
	w := two(t)
	ok(t, w.Cut(1, 9))
	want(t, "the cut", w.Remove("a"), api.ErrPower)
	was := look(w)
	for _, name := range append(odd(), "none") {
		for _, c := range append(naming(name, []byte("x")), naming(name, much(api.MaxFile+1))...) {
			want(t, fmt.Sprintf("%s %q", c.name, name), c.do(w), api.ErrPower)
		}
		want(t, "Rename", w.Rename(name, name), api.ErrPower)
	}
	want(t, "Cut", w.Cut(-1, -1), api.ErrPower)
	want(t, "Place of no good name", w.Place("", nil), api.ErrName)
	want(t, "Place of too much", w.Place("a", much(api.MaxFile+1)), api.ErrRange)
	named(t, w, "a", "b")
	if look(w) != was {
		t.Errorf("%s became %s", was, look(w))
	}
	w.Power()
	holds(t, w, "a", "xyzpq", 5)
	holds(t, w, "b", "123", 3)
}

func TestNoSuchFile(t *testing.T) {
	w := two(t)
	was := look(w)
	ok(t, w.Cut(1, 0))
	for _, c := range naming("none", []byte("x")) {
		if c.name != "Create" && c.name != "Rename to" {
			want(t, c.name, c.do(w), api.ErrNone)
		}
	}
	if look(w) != was {
		t.Errorf("%s became %s", was, look(w))
	}
}

// R3

func TestWhatIsHandedInIsNotKept(t *testing.T) {
	w := files.New()
	b := []byte("xyz")
	ok(t, w.Create("a"), w.Append("a", b), w.Place("b", b))
	copy(b, "???")
	holds(t, w, "a", "xyz", 0)
	holds(t, w, "b", "xyz", 3)
	ok(t, w.Append("a", b), w.Append("b", b))
	copy(b, "!!!")
	holds(t, w, "a", "xyz???", 0)
	holds(t, w, "b", "xyz???", 3)
}

func TestWhatIsHandedInIsNotChanged(t *testing.T) {
	room := []byte("abcdefgh")
	w := files.New()
	ok(t, w.Create("a"), w.Append("a", room[:2]), w.Append("a", []byte("zz")), w.Append("a", room[2:4]), w.Append("a", []byte("zz")))
	ok(t, w.Place("b", room[:3]), w.Append("b", []byte("zz")))
	ok(t, w.Cut(1, 0))
	want(t, "the cut", w.Append("b", room[4:5]), api.ErrPower)
	w.Power()
	ok(t, w.Append("b", []byte("zz")), w.Append("a", []byte("zz")))
	if string(room) != "abcdefgh" {
		t.Errorf("the list became %q", room)
	}
	holds(t, w, "b", "abczz", 3)
}

func TestAnswersAreNewMemory(t *testing.T) {
	w := two(t)
	one, _ := w.Read("a")
	other, _ := w.Read("a")
	for i := range one[:cap(one)] {
		one[:cap(one)][i] = '?'
	}
	holds(t, w, "a", "xyzpq", 3)
	if string(other) != "xyzpq" {
		t.Errorf("another answer became %q", other)
	}
	ok(t, w.Append("a", []byte("rstuvwxyz")))
	if !bytes.Equal(one, []byte("?????")) {
		t.Errorf("an answer became %q", one)
	}
	names := w.Names()
	all := names[:cap(names)]
	for i := range all {
		all[i] = "?"
	}
	named(t, w, "a", "b")
	again := w.Names()
	ok(t, w.Rename("a", "z"))
	if strings.Join(again, " ") != "a b" {
		t.Errorf("names became %q", again)
	}
}

func TestNilAndEmptyAreTheSame(t *testing.T) {
	for _, b := range [][]byte{nil, {}} {
		w := files.New()
		ok(t, w.Create("a"), w.Append("a", b), w.Place("b", b))
		holds(t, w, "a", "", 0)
		holds(t, w, "b", "", 0)
		counted(t, w, 2, 0)
	}
}

// R4

func TestAnswersDoNotHangOnAMapsOrder(t *testing.T) {
	run := func() string {
		w := full(t)
		for i, name := range w.Names() {
			ok(t, w.Append(name, much(i)))
		}
		ok(t, w.Cut(2, 5), w.Sync("f07"))
		want(t, "the cut", w.Rename("f00", "f01"), api.ErrPower)
		w.Power()
		return look(w)
	}
	first := run()
	for range 50 {
		if again := run(); again != first {
			t.Fatalf("%s, and then %s", first, again)
		}
	}
}

func TestWorldsAreApart(t *testing.T) {
	one, other := two(t), two(t)
	was := look(other)
	ok(t, one.Remove("a"), one.Cut(1, 0))
	want(t, "the cut", one.Create("c"), api.ErrPower)
	if look(other) != was {
		t.Errorf("%s became %s", was, look(other))
	}
	ok(t, other.Create("c"))
}

// R5

func TestWorldsThatNoCallMade(t *testing.T) {
	for _, w := range []*files.World{nil, {}, new(files.World)} {
		for range 2 {
			for _, name := range odd() {
				for _, c := range append(naming(name, nil), naming(name, much(api.MaxFile+1))...) {
					want(t, c.name, c.do(w), api.ErrMade)
				}
				want(t, "Place", w.Place(name, []byte("x")), api.ErrMade)
			}
			want(t, "Cut", w.Cut(1, 0), api.ErrMade)
			want(t, "Cut", w.Cut(-1, -1), api.ErrMade)
			if w.On() || w.Ops() != 0 || w.Written() != 0 || len(w.Names()) != 0 {
				t.Errorf("a world that no call made tells %s", look(w))
			}
			w.Power() // it is no world behind that either
		}
	}
	zero := new(files.World)
	zero.Power()
	zero.Cut(1, 1)
	zero.Place("a", []byte("x"))
	zero.Create("a")
	if !reflect.DeepEqual(*zero, files.World{}) {
		t.Error("a zero world was changed")
	}
}
