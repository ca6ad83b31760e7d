// Package files is layer 1: named files, whose raw operations are counted, and a power that may fail at any of them.
package files

import (
	"maps"
	"slices"

	"octavo/api"
)

// A name has at most maxName bytes, none of them a blank or one that does not print.
const (
	maxName   = 24
	firstByte = 33
	lastByte  = 126
)

// file has bytes, of which the first synced ones outlive a failure of the power.
type file struct {
	data   []byte
	synced int
}

// World is named files, under a power that may fail. One without a map was not made by New.
type World struct {
	files   map[string]*file
	off     bool
	left    int // how many operations from here on the planned cut is; 0: none is planned
	keep    int // what a planned cut leaves of each file's bytes that are not synced
	ops     int
	written int
}

// New: an empty world, with power.
func New() *World {
	return &World{files: map[string]*file{}}
}

// Good: may a file be called so?
func Good(name string) bool {
	if len(name) < 1 || len(name) > maxName {
		return false
	}
	for i := range len(name) {
		if name[i] < firstByte || name[i] > lastByte {
			return false
		}
	}
	return true
}

// Create: there is an empty file of that name, whatever was called so.
func (w *World) Create(name string) api.Errno {
	if e := w.refusal(name); e != api.OK {
		return e
	}
	if !w.hasRoom(name) {
		return api.ErrRange
	}
	return w.operate(false, func() {
		w.files[name] = &file{}
	})
}

// Append: bytes at a file's end, not synced yet.
func (w *World) Append(name string, b []byte) api.Errno {
	f, e := w.find(name)
	if e != api.OK {
		return e
	}
	if len(b) > api.MaxFile-len(f.data) {
		return api.ErrRange
	}
	return w.operate(true, func() {
		f.data = append(f.data, b...)
		w.written += len(b)
	})
}

// Sync: all bytes of a file outlive a failure of the power.
func (w *World) Sync(name string) api.Errno {
	f, e := w.find(name)
	if e != api.OK {
		return e
	}
	return w.operate(false, func() {
		f.synced = len(f.data)
	})
}

// Rename: a file gets another name, in the place of what was called so.
func (w *World) Rename(from, to string) api.Errno {
	if e := w.refusal(from, to); e != api.OK {
		return e
	}
	f, e := w.find(from)
	if e != api.OK {
		return e
	}
	return w.operate(false, func() {
		delete(w.files, from)
		w.files[to] = f
	})
}

// Remove: a file goes.
func (w *World) Remove(name string) api.Errno {
	if _, e := w.find(name); e != api.OK {
		return e
	}
	return w.operate(false, func() {
		delete(w.files, name)
	})
}

// Place: a file from outside, wholly synced. It is no operation, and needs no power.
func (w *World) Place(name string, b []byte) api.Errno {
	if !w.made() {
		return api.ErrMade
	}
	if !Good(name) {
		return api.ErrName
	}
	if !w.hasRoom(name) || len(b) > api.MaxFile {
		return api.ErrRange
	}
	w.files[name] = &file{data: copied(b), synced: len(b)}
	return api.OK
}

// Read: all bytes of a file.
func (w *World) Read(name string) ([]byte, api.Errno) {
	f, e := w.find(name)
	if e != api.OK {
		return nil, e
	}
	return copied(f.data), api.OK
}

// Synced: how many bytes of a file outlive a failure of the power.
func (w *World) Synced(name string) (int, api.Errno) {
	f, e := w.find(name)
	if e != api.OK {
		return 0, e
	}
	return f.synced, api.OK
}

// Names: of all files, rising; with power or without.
func (w *World) Names() []string {
	if !w.made() {
		return nil
	}
	return slices.Sorted(maps.Keys(w.files))
}

// Ops: how many operations there were, with those that were cut.
func (w *World) Ops() int {
	if !w.made() {
		return 0
	}
	return w.ops
}

// Written: how many bytes the operations were given to append.
func (w *World) Written() int {
	if !w.made() {
		return 0
	}
	return w.written
}

// made: did New make this world?
func (w *World) made() bool {
	return w != nil && w.files != nil
}

// refusal: what is wrong with a call that needs power and is given these names, ahead of a look at the files.
func (w *World) refusal(names ...string) api.Errno {
	if !w.made() {
		return api.ErrMade
	}
	if w.off {
		return api.ErrPower
	}
	for _, name := range names {
		if !Good(name) {
			return api.ErrName
		}
	}
	return api.OK
}

// find: the file of that name, for a call that needs power.
func (w *World) find(name string) (*file, api.Errno) {
	if e := w.refusal(name); e != api.OK {
		return nil, e
	}
	f := w.files[name]
	if f == nil {
		return nil, api.ErrNone
	}
	return f, api.OK
}

// hasRoom: may there be a file of that name beside the others?
func (w *World) hasRoom(name string) bool {
	return w.files[name] != nil || len(w.files) < api.MaxFiles
}

// copied: the same bytes in memory that nobody else has.
func copied(b []byte) []byte {
	return append([]byte(nil), b...)
}
