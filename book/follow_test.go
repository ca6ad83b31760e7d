package book_test

import (
	"math/rand"
	"testing"

	"octavo/api"
	"octavo/book"
)

// P15.2 and P15.3, held against the second way; P15.5 and P15.6.

func TestApplyAsTheSecondWay(t *testing.T) {
	r := rand.New(rand.NewSource(2))
	done, refused, cleared := map[int]int{}, map[api.Errno]int{}, 0
	for range 600 {
		b := anyBook(r)
		same(t, book.Check(b), api.OK, "Check", seen(b))
		for range 20 {
			o, m := anyOp(r, b), modelOf(b)
			made, e := m.do(o)
			got := asked(book.Apply(b, "b", o))
			if e != api.OK {
				refuses(t, got, e, "Apply", o, seen(b))
				refused[e]++
				continue
			}
			back, ahead := m.back(o, made)
			if ahead {
				cleared++
			}
			answers(t, got, made.laid(), back, "Apply", o, seen(b))
			same(t, book.Check(got.b), api.OK, "Check of Apply", o)
			again, _, e := book.All(got.b, "b", got.back)
			same(t, e, api.OK, "All of the way back", o, seen(b))
			alike(t, again, b, "All of the way back", o, seen(b))
			done[o.Kind]++
		}
	}
	for k := api.OpSet; k <= api.OpOutDrop; k++ {
		if done[k] < 200 {
			t.Errorf("only %d of kind %d were done", done[k], k)
		}
	}
	for _, e := range []api.Errno{api.ErrArg, api.ErrText, api.ErrCells, api.ErrNone, api.ErrExists, api.ErrName, api.ErrRange, api.ErrForm, api.ErrSheets} {
		if refused[e] < 5 {
			t.Errorf("only %d were refused by %s", refused[e], e.Error())
		}
	}
	if cleared < 3 {
		t.Errorf("only %d ways back had to take formulas away", cleared)
	}
}

// All is one Apply behind the other, and the way back leads to the book.
func TestAllAsOneByOne(t *testing.T) {
	r := rand.New(rand.NewSource(3))
	done, refused := 0, 0
	for range 1000 {
		b := anyBook(r)
		var l, back []api.Op
		after, e := b, api.OK
		for n := r.Intn(8); n > 0 && e == api.OK; n-- {
			o := anyOp(r, after)
			next, way, wrong := book.Apply(after, "b", o)
			if wrong != api.OK && r.Intn(4) > 0 {
				continue
			}
			e, l = wrong, append(l, o)
			after, back = next, append(way, back...)
		}
		got := asked(book.All(b, "b", l))
		if e != api.OK {
			refuses(t, got, e, "All", l, seen(b))
			refused++
			continue
		}
		answers(t, got, after, back, "All", l, seen(b))
		again, forth, e := book.All(got.b, "b", got.back)
		same(t, e, api.OK, "All of the way back", l, seen(b))
		alike(t, again, b, "All of the way back", l, seen(b))
		// The way back has a way back, too.
		again, _, e = book.All(b, "b", forth)
		same(t, e, api.OK, "All of the way forth", l, seen(b))
		alike(t, again, after, "All of the way forth", l, seen(b))
		done++
	}
	if done < 500 || refused < 100 {
		t.Fatalf("only %d were done, and %d refused", done, refused)
	}
}

func TestDiffAsTheSecondWay(t *testing.T) {
	r := rand.New(rand.NewSource(4))
	alikeSheets, long := 0, 0
	for range 2000 {
		a, b := anyBook(r), anyBook(r)
		if r.Intn(2) == 0 {
			b = with(a, func(*api.Book) {})
			for range r.Intn(6) {
				if next, _, e := book.Apply(b, "b", anyOp(r, b)); e == api.OK {
					b = next
				}
			}
		}
		m, to := modelOf(a), modelOf(b)
		l, ok := book.Diff(a, b)
		same(t, ok, len(m.sheets) == len(to.sheets) && shownNames(a) == shownNames(b), "Diff", seen(a), seen(b))
		if !ok {
			same(t, len(l), 0, "Diff", seen(a), seen(b))
			continue
		}
		alikeOps(t, l, m.diff(to), "Diff", seen(a), seen(b))
		alikeSheets++
		if len(l) > 1 {
			long++
		}
	}
	if alikeSheets < 500 || long < 150 {
		t.Fatalf("only %d of sheets called the same, %d of several changes", alikeSheets, long)
	}
}

func shownNames(b api.Book) string {
	s := ""
	for _, x := range b.Sheets {
		s += x.Name + " "
	}
	return s
}

func TestDecodeOfEncodeIsTheBook(t *testing.T) {
	r := rand.New(rand.NewSource(5))
	for range 500 {
		b := anyBook(r)
		bytes, e := book.Encode(b)
		same(t, e, api.OK, "Encode", seen(b))
		got, e := book.Decode(bytes)
		same(t, e, api.OK, "Decode", seen(b))
		alike(t, got, b, "Decode of Encode")
	}
}
