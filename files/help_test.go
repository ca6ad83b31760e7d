package files_test

import (
	"bytes"
	"fmt"
	"strings"
	"testing"

	"octavo/api"
	"octavo/files"
)

// want: the call's error is this one.
func want(t *testing.T, what string, got, e api.Errno) {
	t.Helper()
	if got != e {
		t.Fatalf("%s: %v, want %v", what, got, e)
	}
}

// ok: each of the calls has no error.
func ok(t *testing.T, l ...api.Errno) {
	t.Helper()
	for i, e := range l {
		if e != api.OK {
			t.Fatalf("call %d: %v, want ok", i, e)
		}
	}
}

// holds: the file has these bytes, so many of them synced.
func holds(t *testing.T, w *files.World, name, data string, synced int) {
	t.Helper()
	b, e := w.Read(name)
	if e != api.OK || string(b) != data {
		t.Fatalf("Read(%q): %q %v, want %q", name, b, e, data)
	}
	n, e := w.Synced(name)
	if e != api.OK || n != synced {
		t.Fatalf("Synced(%q): %d %v, want %d", name, n, e, synced)
	}
}

// named: these files are there, in this order, and no others.
func named(t *testing.T, w *files.World, names ...string) {
	t.Helper()
	if got := strings.Join(w.Names(), " "); got != strings.Join(names, " ") {
		t.Fatalf("Names: %q, want %q", got, names)
	}
}

// counted: so many operations, that were given so many bytes.
func counted(t *testing.T, w *files.World, ops, written int) {
	t.Helper()
	if w.Ops() != ops || w.Written() != written {
		t.Fatalf("Ops %d Written %d, want %d and %d", w.Ops(), w.Written(), ops, written)
	}
}

// look: all that a world tells of itself. (Of files nothing is told without power.)
func look(w *files.World) string {
	out := fmt.Sprintf("on %v ops %d written %d names %q", w.On(), w.Ops(), w.Written(), w.Names())
	for _, name := range w.Names() {
		b, e := w.Read(name)
		n, _ := w.Synced(name)
		out += fmt.Sprintf(" %s %x %d %v", name, b, n, e)
	}
	return out
}

// call is one call of a world's, for tests that go through all of them.
type call struct {
	name string
	do   func(w *files.World) api.Errno
}

// naming: the calls that are given one file's name and need power.
func naming(name string, b []byte) []call {
	return []call{
		{"Create", func(w *files.World) api.Errno { return w.Create(name) }},
		{"Append", func(w *files.World) api.Errno { return w.Append(name, b) }},
		{"Sync", func(w *files.World) api.Errno { return w.Sync(name) }},
		{"Rename from", func(w *files.World) api.Errno { return w.Rename(name, "z") }},
		{"Rename to", func(w *files.World) api.Errno { return w.Rename("a", name) }},
		{"Remove", func(w *files.World) api.Errno { return w.Remove(name) }},
		{"Read", func(w *files.World) api.Errno {
			b, e := w.Read(name)
			if e != api.OK && len(b) != 0 {
				return -1
			}
			return e
		}},
		{"Synced", func(w *files.World) api.Errno {
			n, e := w.Synced(name)
			if e != api.OK && n != 0 {
				return -1
			}
			return e
		}},
	}
}

// full: a world of MaxFiles files, f00 to f15.
func full(t *testing.T) *files.World {
	t.Helper()
	w := files.New()
	for i := range api.MaxFiles {
		ok(t, w.Create(fmt.Sprintf("f%02d", i)))
	}
	return w
}

// much: so many bytes.
func much(n int) []byte { return bytes.Repeat([]byte{'m'}, n) }
