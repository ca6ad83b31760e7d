package files_test

import (
	"fmt"
	"math/rand"
	"slices"
	"testing"

	"octavo/api"
	"octavo/files"
)

// A model is the chapter once more, as plainly as can be: each byte of a file has a mark of its own that it is synced.
type model struct {
	list         []modelFile
	off          bool
	plan, keep   int
	ops, written int
}

type modelFile struct {
	name  string
	bytes []modelByte
}

type modelByte struct {
	value  byte
	synced bool
}

func marked(b []byte, synced bool) []modelByte {
	var out []modelByte
	for _, v := range b {
		out = append(out, modelByte{v, synced})
	}
	return out
}

func (m *model) at(name string) int {
	return slices.IndexFunc(m.list, func(f modelFile) bool { return f.name == name })
}

// drop: the file of that name goes, if there is one.
func (m *model) drop(name string) {
	m.list = slices.DeleteFunc(m.list, func(f modelFile) bool { return f.name == name })
}

// begins: an operation begins; is it cut?
func (m *model) begins() bool {
	m.ops++
	m.plan--
	return m.plan == 0
}

// fails: the power does.
func (m *model) fails() api.Errno {
	for i, f := range m.list {
		var kept []modelByte
		loose := 0
		for _, b := range f.bytes {
			if !b.synced {
				loose++
			}
			if loose <= m.keep {
				kept = append(kept, modelByte{b.value, true})
			}
		}
		m.list[i].bytes = kept
	}
	m.off = true
	return api.ErrPower
}

func (m *model) create(name string) api.Errno {
	switch {
	case m.off:
		return api.ErrPower
	case name == "":
		return api.ErrName
	case m.at(name) < 0 && len(m.list) == api.MaxFiles:
		return api.ErrRange
	case m.begins():
		return m.fails()
	}
	m.drop(name)
	m.list = append(m.list, modelFile{name: name})
	return api.OK
}

// missing: the error of a call that wants a file.
func (m *model) missing(name string) api.Errno {
	switch {
	case m.off:
		return api.ErrPower
	case name == "":
		return api.ErrName
	case m.at(name) < 0:
		return api.ErrNone
	}
	return api.OK
}

func (m *model) append(name string, b []byte) api.Errno {
	if e := m.missing(name); e != api.OK {
		return e
	}
	f := &m.list[m.at(name)]
	if len(f.bytes)+len(b) > api.MaxFile {
		return api.ErrRange
	}
	cut := m.begins()
	f.bytes = append(f.bytes, marked(b, false)...)
	m.written += len(b)
	if cut {
		return m.fails()
	}
	return api.OK
}

func (m *model) sync(name string) api.Errno {
	if e := m.missing(name); e != api.OK {
		return e
	}
	if m.begins() {
		return m.fails()
	}
	f := m.list[m.at(name)]
	for i := range f.bytes {
		f.bytes[i].synced = true
	}
	return api.OK
}

func (m *model) rename(from, to string) api.Errno {
	if !m.off && to == "" {
		return api.ErrName
	}
	if e := m.missing(from); e != api.OK {
		return e
	}
	if m.begins() {
		return m.fails()
	}
	if from != to {
		m.drop(to)
		m.list[m.at(from)].name = to
	}
	return api.OK
}

func (m *model) remove(name string) api.Errno {
	if e := m.missing(name); e != api.OK {
		return e
	}
	if m.begins() {
		return m.fails()
	}
	m.drop(name)
	return api.OK
}

func (m *model) place(name string, b []byte) api.Errno {
	if name == "" {
		return api.ErrName
	}
	if m.at(name) < 0 && len(m.list) == api.MaxFiles {
		return api.ErrRange
	}
	m.drop(name)
	m.list = append(m.list, modelFile{name, marked(b, true)})
	return api.OK
}

func (m *model) cut(n, keep int) api.Errno {
	if m.off {
		return api.ErrPower
	}
	if n < 0 || keep < 0 {
		return api.ErrArg
	}
	m.plan, m.keep = n, keep
	return api.OK
}

// look: what the function look tells of a world.
func (m *model) look() string {
	slices.SortFunc(m.list, func(a, b modelFile) int { return slices.Compare([]byte(a.name), []byte(b.name)) })
	var names []string
	rest := ""
	for _, f := range m.list {
		names = append(names, f.name)
		var data []byte
		synced, e := 0, api.ErrPower
		if !m.off {
			e = api.OK
			for _, b := range f.bytes {
				data = append(data, b.value)
				if b.synced {
					synced++
				}
			}
		}
		rest += fmt.Sprintf(" %s %x %d %v", f.name, data, synced, e)
	}
	return fmt.Sprintf("on %v ops %d written %d names %q", !m.off, m.ops, m.written, names) + rest
}

// step: one call, of the world and of the model, chosen by r.
func (m *model) step(w *files.World, r *rand.Rand) (what string, got, wanted api.Errno) {
	name := func() string {
		if n := r.Intn(api.MaxFiles + 3); n > 0 {
			return string(rune('a' + n))
		}
		return ""
	}
	a, c := name(), name()
	b := []byte("0123456789"[r.Intn(10):])
	n, keep := r.Intn(9)-1, r.Intn(12)-1
	switch r.Intn(12) {
	case 0, 1:
		return "Create " + a, w.Create(a), m.create(a)
	case 2, 3, 4, 5:
		return "Append " + a, w.Append(a, b), m.append(a, b)
	case 6:
		return "Sync " + a, w.Sync(a), m.sync(a)
	case 7:
		return "Rename " + a + " " + c, w.Rename(a, c), m.rename(a, c)
	case 8:
		return "Remove " + a, w.Remove(a), m.remove(a)
	case 9:
		return "Place " + a, w.Place(a, b), m.place(a, b)
	case 10:
		return fmt.Sprint("Cut ", n, keep), w.Cut(n, keep), m.cut(n, keep)
	}
	w.Power()
	m.off = false
	return "Power", api.OK, api.OK
}

// P1.1 to P1.3 over long runs of calls: the world tells what the model tells, behind each of them.
func TestWorldsAreAsTheModel(t *testing.T) {
	for seed := range int64(200) {
		r := rand.New(rand.NewSource(seed))
		w, m := files.New(), &model{}
		for i := range 200 {
			what, got, wanted := m.step(w, r)
			if got != wanted {
				t.Fatalf("run %d, call %d, %s: %v, want %v", seed, i, what, got, wanted)
			}
			if a, b := look(w), m.look(); a != b {
				t.Fatalf("run %d, call %d, %s:\n%s, want\n%s", seed, i, what, a, b)
			}
		}
	}
}
