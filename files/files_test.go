package files_test

import (
	"strings"
	"testing"

	"octavo/api"
	"octavo/files"
)

// The calls are those that the document lists.
var _ interface {
	Create(name string) api.Errno
	Append(name string, b []byte) api.Errno
	Sync(name string) api.Errno
	Rename(from, to string) api.Errno
	Remove(name string) api.Errno
	Place(name string, b []byte) api.Errno
	Read(name string) ([]byte, api.Errno)
	Names() []string
	Synced(name string) (int, api.Errno)
	Cut(n, keep int) api.Errno
	Power()
	On() bool
	Ops() int
	Written() int
} = files.New()

// P1.1

func TestGood(t *testing.T) {
	good := []string{"a", "!", "~", strings.Repeat("x", 24), "!~", "a.oct", "A-z_09"}
	for _, name := range good {
		if !files.Good(name) {
			t.Errorf("Good(%q) is false", name)
		}
	}
	wrong := []string{"", " ", "\x7f", strings.Repeat("x", 25), "a b", " a", "a ", "a\x7f", "\x00", "a\n", "\x80", "\xff", "ä", "a\xffb", strings.Repeat("x", 23) + " "}
	for _, name := range wrong {
		if files.Good(name) {
			t.Errorf("Good(%q) is true", name)
		}
	}
	for b := range 256 {
		if got := files.Good(string([]byte{byte(b)})); got != (b >= 33 && b <= 126) {
			t.Errorf("Good of byte %d: %v", b, got)
		}
	}
}

func TestNamesAtTheEdgesMakeFiles(t *testing.T) {
	w := files.New()
	for _, name := range []string{"!", "~", strings.Repeat("x", 24)} {
		ok(t, w.Create(name))
	}
	named(t, w, "!", strings.Repeat("x", 24), "~")
}

func TestNewIsEmptyWithPower(t *testing.T) {
	w := files.New()
	if !w.On() {
		t.Error("the power is off")
	}
	named(t, w)
	counted(t, w, 0, 0)
}

func TestCreate(t *testing.T) {
	w := files.New()
	ok(t, w.Create("a"))
	holds(t, w, "a", "", 0)
	ok(t, w.Append("a", []byte("xyz")), w.Sync("a"))
	ok(t, w.Create("a"))
	holds(t, w, "a", "", 0)
	named(t, w, "a")
	counted(t, w, 4, 3)
}

func TestCreateAtMaxFiles(t *testing.T) {
	w := full(t)
	was := look(w)
	want(t, "one file too many", w.Create("more"), api.ErrRange)
	if look(w) != was {
		t.Errorf("a refused Create changed %s to %s", was, look(w))
	}
	ok(t, w.Create("f03"))
	ok(t, w.Rename("f00", "other"))
	want(t, "one too many, behind Rename", w.Create("f00"), api.ErrRange)
	ok(t, w.Rename("f01", "f02"))
	ok(t, w.Create("more"))
	want(t, "one too many, behind Rename over one", w.Create("f01"), api.ErrRange)
	ok(t, w.Remove("more"), w.Create("f01"))
	if len(w.Names()) != api.MaxFiles {
		t.Errorf("%d files", len(w.Names()))
	}
}

func TestAppend(t *testing.T) {
	w := files.New()
	want(t, "no such file", w.Append("a", nil), api.ErrNone)
	ok(t, w.Create("a"), w.Create("b"))
	ok(t, w.Append("a", []byte("xy")), w.Append("b", []byte{0, 255}), w.Append("a", []byte("z")))
	ok(t, w.Append("a", nil), w.Append("a", []byte{}))
	holds(t, w, "a", "xyz", 0)
	holds(t, w, "b", "\x00\xff", 0)
	counted(t, w, 7, 5)
}

func TestAppendAtMaxFile(t *testing.T) {
	w := files.New()
	ok(t, w.Create("a"))
	want(t, "one byte too many at once", w.Append("a", much(api.MaxFile+1)), api.ErrRange)
	ok(t, w.Append("a", much(api.MaxFile-1)))
	want(t, "one byte too many", w.Append("a", much(2)), api.ErrRange)
	counted(t, w, 2, api.MaxFile-1)
	ok(t, w.Append("a", much(1)))
	want(t, "a byte for a full file", w.Append("a", much(1)), api.ErrRange)
	ok(t, w.Append("a", nil), w.Sync("a"))
	holds(t, w, "a", string(much(api.MaxFile)), api.MaxFile)
	counted(t, w, 5, api.MaxFile)
}

func TestSync(t *testing.T) {
	w := files.New()
	want(t, "no such file", w.Sync("a"), api.ErrNone)
	ok(t, w.Create("a"), w.Create("b"), w.Append("a", []byte("xyz")), w.Append("b", []byte("q")))
	ok(t, w.Sync("a"))
	holds(t, w, "a", "xyz", 3)
	holds(t, w, "b", "q", 0)
	ok(t, w.Append("a", []byte("pq")))
	holds(t, w, "a", "xyzpq", 3)
	ok(t, w.Sync("a"), w.Sync("a"))
	holds(t, w, "a", "xyzpq", 5)
}

func TestRename(t *testing.T) {
	w := files.New()
	want(t, "no such file", w.Rename("a", "b"), api.ErrNone)
	ok(t, w.Create("a"), w.Append("a", []byte("xyz")), w.Sync("a"), w.Append("a", []byte("pq")))
	ok(t, w.Rename("a", "b"))
	named(t, w, "b")
	holds(t, w, "b", "xyzpq", 3)
	want(t, "the old name", w.Append("a", nil), api.ErrNone)
	ok(t, w.Create("a"))
	holds(t, w, "b", "xyzpq", 3)
	counted(t, w, 6, 5)
}

func TestRenameOverAnother(t *testing.T) {
	w := files.New()
	ok(t, w.Create("a"), w.Append("a", []byte("xyz")), w.Place("b", []byte("longer one")))
	ok(t, w.Rename("a", "b"))
	named(t, w, "b")
	holds(t, w, "b", "xyz", 0)
	want(t, "no such file over another", w.Rename("a", "b"), api.ErrNone)
	holds(t, w, "b", "xyz", 0)
}

func TestRenameToItself(t *testing.T) {
	w := files.New()
	want(t, "no such file to itself", w.Rename("a", "a"), api.ErrNone)
	ok(t, w.Create("a"), w.Append("a", []byte("xyz")), w.Sync("a"), w.Append("a", []byte("p")), w.Create("b"))
	ok(t, w.Rename("a", "a"))
	named(t, w, "a", "b")
	holds(t, w, "a", "xyzp", 3)
	counted(t, w, 6, 4)
}

func TestRemove(t *testing.T) {
	w := files.New()
	want(t, "no such file", w.Remove("a"), api.ErrNone)
	ok(t, w.Create("a"), w.Create("b"), w.Append("a", []byte("x")))
	ok(t, w.Remove("a"))
	named(t, w, "b")
	_, e := w.Read("a")
	want(t, "Read of what is gone", e, api.ErrNone)
	_, e = w.Synced("a")
	want(t, "Synced of what is gone", e, api.ErrNone)
	want(t, "Remove of what is gone", w.Remove("a"), api.ErrNone)
	ok(t, w.Create("a"))
	holds(t, w, "a", "", 0)
}

// P1.2

func TestOpsAndWritten(t *testing.T) {
	w := files.New()
	step := func(got, e api.Errno, ops, written int) {
		t.Helper()
		want(t, "the step", got, e)
		counted(t, w, ops, written)
	}
	step(w.Create("a"), api.OK, 1, 0)
	step(w.Append("a", []byte("xyz")), api.OK, 2, 3)
	step(w.Append("b", []byte("xyz")), api.ErrNone, 2, 3)
	step(w.Sync("a"), api.OK, 3, 3)
	step(w.Sync("b"), api.ErrNone, 3, 3)
	step(w.Place("p", []byte("placed")), api.OK, 3, 3)
	step(w.Cut(9, 9), api.OK, 3, 3)
	step(w.Rename("a", "c"), api.OK, 4, 3)
	step(w.Rename("a", "c"), api.ErrNone, 4, 3)
	step(w.Cut(2, 0), api.OK, 4, 3)
	step(w.Append("c", []byte("pq")), api.OK, 5, 5)
	step(w.Append("c", []byte("rst")), api.ErrPower, 6, 8) // cut: it counts, and so do its bytes
	step(w.Append("c", []byte("u")), api.ErrPower, 6, 8)   // the power is off: it does not
	w.Power()
	step(w.Remove("c"), api.OK, 7, 8)
	step(w.Create(""), api.ErrName, 7, 8)
	w.Read("p")
	w.Synced("p")
	w.Names()
	counted(t, w, 7, 8)
}

func TestPlace(t *testing.T) {
	w := files.New()
	ok(t, w.Place("a", []byte("xyz")))
	holds(t, w, "a", "xyz", 3)
	ok(t, w.Append("a", []byte("p")), w.Create("b"), w.Append("b", []byte("unsynced")))
	ok(t, w.Place("a", []byte("q")), w.Place("b", []byte("no")))
	holds(t, w, "a", "q", 1)
	holds(t, w, "b", "no", 2)
	ok(t, w.Place("a", nil))
	holds(t, w, "a", "", 0)
	counted(t, w, 3, 9)
}

func TestPlaceAtTheLimits(t *testing.T) {
	w := full(t)
	want(t, "a file too many", w.Place("more", nil), api.ErrRange)
	want(t, "a byte too many", w.Place("f00", much(api.MaxFile+1)), api.ErrRange)
	holds(t, w, "f00", "", 0)
	ok(t, w.Place("f00", much(api.MaxFile)))
	holds(t, w, "f00", string(much(api.MaxFile)), api.MaxFile)
	ok(t, w.Place("f00", much(api.MaxFile))) // what was there does not count
	want(t, "a byte behind it", w.Append("f00", much(1)), api.ErrRange)
	ok(t, w.Remove("f00"), w.Place("more", nil))
	want(t, "a file too many again", w.Place("f00", nil), api.ErrRange)
}

func TestPlaceWithoutPowerAndWithACutPlanned(t *testing.T) {
	w := files.New()
	ok(t, w.Create("a"), w.Cut(1, 0), w.Place("b", []byte("x")))
	want(t, "the operation behind Place", w.Sync("a"), api.ErrPower)
	ok(t, w.Place("c", []byte("yz")), w.Place("a", []byte("new")))
	if w.On() {
		t.Error("Place turned the power on")
	}
	counted(t, w, 2, 0)
	w.Power()
	holds(t, w, "a", "new", 3)
	holds(t, w, "b", "x", 1)
	holds(t, w, "c", "yz", 2)
}

func TestReadAndSyncedOfNoFile(t *testing.T) {
	w := files.New()
	ok(t, w.Create("a"))
	b, e := w.Read("b")
	if len(b) != 0 || e != api.ErrNone {
		t.Errorf("Read: %q %v", b, e)
	}
	n, e := w.Synced("b")
	if n != 0 || e != api.ErrNone {
		t.Errorf("Synced: %d %v", n, e)
	}
}

func TestNamesRiseByBytes(t *testing.T) {
	w := files.New()
	for _, name := range []string{"b", "a.oct", "Z", "a", "~", "aa", "!", "a.jnl", "10", "9"} {
		ok(t, w.Create(name))
	}
	named(t, w, "!", "10", "9", "Z", "a", "a.jnl", "a.oct", "aa", "b", "~")
}
