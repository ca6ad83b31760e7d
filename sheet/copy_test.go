package sheet_test

import (
	"math/rand"
	"slices"
	"testing"

	"octavo/api"
	"octavo/sheet"
)

// P12.3: Copy

func TestCopy(t *testing.T) {
	r := rand.New(rand.NewSource(7))
	alike(t, sheet.Copy(api.Book{}), api.Book{}, "Copy")
	alike(t, sheet.Copy(some()), some(), "Copy")
	for n := range 8 {
		alike(t, sheet.Copy(named(n)), named(n), "Copy", n)
	}
	for range 1000 {
		b := wildBook(r)
		alike(t, sheet.Copy(b), b, "Copy")
		alike(t, sheet.Copy(api.Book{Names: b.Names}), api.Book{Names: b.Names}, "Copy")
		alike(t, sheet.Copy(api.Book{Links: b.Links}), api.Book{Links: b.Links}, "Copy")
	}
}

// P12.3: Same

// others: books that differ from some in one thing each.
func others() []api.Book {
	var l []api.Book
	differ := func(change func(b *api.Book)) {
		b := sheet.Copy(some())
		change(&b)
		l = append(l, b)
	}
	for i := range 3 {
		differ(func(b *api.Book) { b.Sheets[i].Name += "_" })
		differ(func(b *api.Book) { b.Sheets = slices.Delete(b.Sheets, i, i+1) })
		differ(func(b *api.Book) { b.Sheets[i].Cells = append(b.Sheets[i].Cells, cell(64, 26, "more")) })
		differ(func(b *api.Book) { b.Names = slices.Delete(b.Names, i, i+1) })
		differ(func(b *api.Book) { b.Names[i].Scope += "_" })
		differ(func(b *api.Book) { b.Names[i].Name += "_" })
		differ(func(b *api.Book) { b.Names[i].Text += "_" })
	}
	for i := range 8 {
		differ(func(b *api.Book) { b.Sheets[0].Cells[i].Row++ })
		differ(func(b *api.Book) { b.Sheets[0].Cells[i].Col++ })
		differ(func(b *api.Book) { b.Sheets[0].Cells[i].Text += " " })
		differ(func(b *api.Book) { b.Sheets[0].Cells = slices.Delete(b.Sheets[0].Cells, i, i+1) })
	}
	for i := range 2 {
		differ(func(b *api.Book) { b.Links = slices.Delete(b.Links, i, i+1) })
		differ(func(b *api.Book) { b.Links[i].Book += "_" })
		differ(func(b *api.Book) { b.Links[i].Sheet += "_" })
		differ(func(b *api.Book) { b.Links[i].Row++ })
		differ(func(b *api.Book) { b.Links[i].Col++ })
		differ(func(b *api.Book) { b.Links[i].Value.Kind++ })
		differ(func(b *api.Book) { b.Links[i].Value.N++ })
		differ(func(b *api.Book) { b.Links[i].Value.S += "_" })
	}
	differ(func(b *api.Book) { slices.Reverse(b.Sheets) })
	differ(func(b *api.Book) { slices.Reverse(b.Sheets[0].Cells) })
	differ(func(b *api.Book) { slices.Reverse(b.Names) })
	differ(func(b *api.Book) { slices.Reverse(b.Links) })
	differ(func(b *api.Book) { b.Sheets = nil })
	differ(func(b *api.Book) { b.Sheets[2].Cells = nil })
	differ(func(b *api.Book) { b.Names = nil })
	differ(func(b *api.Book) { b.Links = nil })
	differ(func(b *api.Book) { b.Sheets = append(b.Sheets, page("More")) })
	differ(func(b *api.Book) { b.Names = append(b.Names, api.Name{}) })
	differ(func(b *api.Book) { b.Links = append(b.Links, api.Link{}) })
	return l
}

func TestSame(t *testing.T) {
	same(t, sheet.Same(some(), some()), true, "Same")
	l := others()
	for i, a := range l {
		same(t, sheet.Same(a, some()), false, "Same", i)
		same(t, sheet.Same(some(), a), false, "Same", i)
		for j, b := range l {
			same(t, sheet.Same(a, b), shown(a) == shown(b), "Same", i, j)
		}
	}
}

// TestSameOfNothing: nil and empty lists are the same.
func TestSameOfNothing(t *testing.T) {
	empty := api.Book{Sheets: []api.Sheet{}, Names: []api.Name{}, Links: []api.Link{}}
	same(t, sheet.Same(api.Book{}, api.Book{}), true, "Same")
	same(t, sheet.Same(api.Book{}, empty), true, "Same")
	same(t, sheet.Same(empty, api.Book{}), true, "Same")
	a, b := api.Book{Sheets: []api.Sheet{{Name: "S"}}}, api.Book{Sheets: []api.Sheet{{Name: "S", Cells: []api.Cell{}}}}
	same(t, sheet.Same(a, b), true, "Same")
	same(t, sheet.Same(b, a), true, "Same")
	same(t, sheet.Same(api.Book{}, a), false, "Same")
	same(t, sheet.Same(a, api.Book{}), false, "Same")
}

func TestSameOfAnyBooks(t *testing.T) {
	r := rand.New(rand.NewSource(8))
	for range 2000 {
		a, b := wildBook(r), wildBook(r)
		same(t, sheet.Same(a, sheet.Copy(a)), true, "Same of a Copy")
		same(t, sheet.Same(a, b), shown(a) == shown(b), "Same", shown(a), shown(b))
	}
}
