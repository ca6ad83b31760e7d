package book_test

import (
	"math"
	"math/rand"
	"slices"
	"sort"
	"strings"

	"octavo/addr"
	"octavo/api"
	"octavo/formula"
	"octavo/rewrite"
	"octavo/shift"
	"octavo/value"
)

// The second way: a book as sets of cells, names and links, that are put in order anew each time, and lines written down one by one.

type spot struct {
	sheet    string
	row, col int
}

type model struct {
	sheets []string
	cells  map[spot]string
	names  map[[2]string]string
	links  map[api.Place]api.Value
}

// modelOf: of a book that is right.
func modelOf(b api.Book) model {
	m := model{cells: map[spot]string{}, names: map[[2]string]string{}, links: map[api.Place]api.Value{}}
	for _, s := range b.Sheets {
		m.sheets = append(m.sheets, s.Name)
		for _, c := range s.Cells {
			m.cells[spot{s.Name, c.Row, c.Col}] = c.Text
		}
	}
	for _, x := range b.Names {
		m.names[[2]string{x.Scope, x.Name}] = x.Text
	}
	for _, x := range b.Links {
		m.links[api.Place{Book: x.Book, Sheet: x.Sheet, Row: x.Row, Col: x.Col}] = x.Value
	}
	return m
}

// cellsOf: a sheet's cells, by rows, then columns.
func (m model) cellsOf(sheet string) []api.Cell {
	var l []api.Cell
	for p, text := range m.cells {
		if p.sheet == sheet {
			l = append(l, api.Cell{Row: p.row, Col: p.col, Text: text})
		}
	}
	sort.Slice(l, func(i, j int) bool { return l[i].Row*100+l[i].Col < l[j].Row*100+l[j].Col })
	return l
}

// laid: the model as a book.
func (m model) laid() api.Book {
	var b api.Book
	for _, s := range m.sheets {
		b.Sheets = append(b.Sheets, page(s, m.cellsOf(s)...))
	}
	for k, text := range m.names {
		b.Names = append(b.Names, api.Name{Scope: k[0], Name: k[1], Text: text})
	}
	sort.Slice(b.Names, func(i, j int) bool {
		// Good names have no blank, which is below all that they have.
		return b.Names[i].Scope+" "+b.Names[i].Name < b.Names[j].Scope+" "+b.Names[j].Name
	})
	for p, v := range m.links {
		b.Links = append(b.Links, api.Link{Book: p.Book, Sheet: p.Sheet, Row: p.Row, Col: p.Col, Value: v})
	}
	sort.Slice(b.Links, func(i, j int) bool { return linkKey(b.Links[i]) < linkKey(b.Links[j]) })
	return b
}

// linkKey: by what links are put in order. Rows and columns have less than 256 lines.
func linkKey(x api.Link) string {
	return x.Book + " " + x.Sheet + " " + string([]byte{byte(x.Row), byte(x.Col)})
}

// newLines: where each of the lines 1 to most stands when n come ahead of line at, or go from there on; 0: it goes.
func newLines(at, n, most int) []int {
	var old []int
	for p := 1; p <= most; p++ {
		for i := 0; p == at && i < n; i++ {
			old = append(old, 0)
		}
		if n > 0 || p < at || p >= at-n {
			old = append(old, p)
		}
	}
	to := make([]int, most+1)
	for i, p := range old {
		if p > 0 {
			to[p] = i + 1
		}
	}
	return to
}

// goodLines: is there such a shift?
func goodLines(at, n, most int) bool {
	return 1 <= at && at <= most && n != 0 && -most <= n && n <= most && at+max(n, -n)-1 <= most
}

// do: what a change makes of the model, in book b; the error, if there is one.
func (m model) do(o api.Op) (model, api.Errno) {
	m = modelOf(m.laid())
	has := slices.Contains(m.sheets, o.Sheet)
	switch o.Kind {
	case api.OpSet:
		return m.set(o, has)
	case api.OpRows, api.OpCols:
		if !has {
			return m, api.ErrNone
		}
		return m.lines(o)
	case api.OpSheet:
		return m.add(o, has)
	case api.OpDrop:
		return m.drop(o, has)
	case api.OpMove:
		switch {
		case !has:
			return m, api.ErrNone
		case o.At < 0 || o.At >= len(m.sheets):
			return m, api.ErrRange
		}
		m.sheets = slices.DeleteFunc(m.sheets, func(s string) bool { return s == o.Sheet })
		m.sheets = slices.Insert(m.sheets, o.At, o.Sheet)
		return m, api.OK
	case api.OpName:
		return m.define(o.Name)
	case api.OpLink, api.OpUnlink:
		return m.link(o)
	case api.OpOutRows, api.OpOutCols, api.OpOutDrop:
		return m.outside(o)
	}
	return m, api.ErrArg
}

func wellFormed(text string) bool {
	if !strings.HasPrefix(text, "=") {
		return true
	}
	_, e := formula.Parse(text[1:])
	return e == api.OK
}

func (m model) set(o api.Op, has bool) (model, api.Errno) {
	p := spot{o.Sheet, o.Row, o.Col}
	_, there := m.cells[p]
	switch {
	case len(o.Text) > 255:
		return m, api.ErrText
	case !has:
		return m, api.ErrNone
	case o.Row < 1 || o.Row > 64 || o.Col < 1 || o.Col > 26:
		return m, api.ErrRange
	case !wellFormed(o.Text):
		return m, api.ErrForm
	case !there && o.Text != "" && len(m.cells) >= 200:
		return m, api.ErrCells
	}
	m.cells[p] = o.Text
	if o.Text == "" {
		delete(m.cells, p)
	}
	return m, api.OK
}

func (m model) add(o api.Op, has bool) (model, api.Errno) {
	wrong := o.At < 0 || o.At > len(m.sheets)
	for i, c := range o.Cells {
		wrong = wrong || c.Row < 1 || c.Row > 64 || c.Col < 1 || c.Col > 26 || c.Text == "" || len(c.Text) > 255 || !wellFormed(c.Text)
		wrong = wrong || i > 0 && o.Cells[i-1].Row*100+o.Cells[i-1].Col >= c.Row*100+c.Col
	}
	switch {
	case !addr.GoodName(o.Sheet):
		return m, api.ErrName
	case has:
		return m, api.ErrExists
	case wrong:
		return m, api.ErrRange
	case len(m.sheets) >= 4:
		return m, api.ErrSheets
	case len(m.cells)+len(o.Cells) > 200:
		return m, api.ErrCells
	}
	m.sheets = slices.Insert(m.sheets, o.At, o.Sheet)
	for _, c := range o.Cells {
		m.cells[spot{o.Sheet, c.Row, c.Col}] = c.Text
	}
	return m, api.OK
}

func (m model) drop(o api.Op, has bool) (model, api.Errno) {
	switch {
	case !has:
		return m, api.ErrNone
	case len(m.sheets) == 1:
		return m, api.ErrSheets
	}
	m.sheets = slices.DeleteFunc(m.sheets, func(s string) bool { return s == o.Sheet })
	for p := range m.cells {
		if p.sheet == o.Sheet {
			delete(m.cells, p)
		}
	}
	for k := range m.names {
		if k[0] == o.Sheet {
			delete(m.names, k)
		}
	}
	return m.rewritten(rewrite.Change{Book: "b", Sheet: o.Sheet, Drop: true})
}

func (m model) define(x api.Name) (model, api.Errno) {
	k := [2]string{x.Scope, x.Name}
	_, there := m.names[k]
	switch {
	case x.Text == "" && !there:
		return m, api.ErrNone
	case x.Text == "":
		delete(m.names, k)
		return m, api.OK
	case x.Scope != "" && !slices.Contains(m.sheets, x.Scope):
		return m, api.ErrNone
	case len(x.Text) > 255:
		return m, api.ErrText
	case !addr.GoodName(x.Name):
		return m, api.ErrName
	case !wellFormed("=" + x.Text):
		return m, api.ErrForm
	case !there && len(m.names) >= 32:
		return m, api.ErrRange
	}
	m.names[k] = x.Text
	return m, api.OK
}

func (m model) link(o api.Op) (model, api.Errno) {
	x := o.Link
	p := api.Place{Book: x.Book, Sheet: x.Sheet, Row: x.Row, Col: x.Col}
	_, there := m.links[p]
	switch {
	case o.Kind == api.OpUnlink && !there:
		return m, api.ErrNone
	case o.Kind == api.OpUnlink:
		delete(m.links, p)
		return m, api.OK
	case !addr.GoodName(x.Book) || !addr.GoodName(x.Sheet):
		return m, api.ErrName
	case x.Row < 1 || x.Row > 64 || x.Col < 1 || x.Col > 26 || !value.Good(x.Value) || !there && len(m.links) >= 64:
		return m, api.ErrRange
	}
	m.links[p] = x.Value
	return m, api.OK
}

func (m model) lines(o api.Op) (model, api.Errno) {
	c := changeOf(o)
	if !goodLines(o.At, o.N, c.Shift.Most) {
		return m, api.ErrRange
	}
	to, moved := newLines(o.At, o.N, c.Shift.Most), map[spot]string{}
	for p, text := range m.cells {
		line := &p.row
		if c.Cols {
			line = &p.col
		}
		if p.sheet == o.Sheet {
			*line = to[*line]
		}
		if *line > c.Shift.Most {
			return m, api.ErrRange
		}
		if *line > 0 {
			moved[p] = text
		}
	}
	m.cells = moved
	return m.rewritten(c)
}

// changeOf: what formulas follow when o is done in book b.
func changeOf(o api.Op) rewrite.Change {
	c := rewrite.Change{Book: "b", Sheet: o.Sheet, Shift: shift.Shift{At: o.At, N: o.N, Most: 64}}
	if o.Kind >= api.OpOutRows {
		c.Book = o.Book
	}
	if o.Kind == api.OpCols || o.Kind == api.OpOutCols {
		c.Cols, c.Shift.Most = true, 26
	}
	if o.Kind == api.OpOutDrop {
		c.Drop, c.Shift = true, shift.Shift{}
	}
	return c
}

func (m model) outside(o api.Op) (model, api.Errno) {
	c := changeOf(o)
	switch {
	case !addr.GoodName(o.Book) || o.Book == "b":
		return m, api.ErrArg
	case !addr.GoodName(o.Sheet):
		return m, api.ErrName
	case !c.Drop && !goodLines(o.At, o.N, c.Shift.Most):
		return m, api.ErrRange
	}
	to := make([]int, 65)
	if !c.Drop {
		to = newLines(o.At, o.N, c.Shift.Most)
	}
	moved := map[api.Place]api.Value{}
	for p, v := range m.links {
		line := &p.Row
		if c.Cols {
			line = &p.Col
		}
		if p.Book == o.Book && p.Sheet == o.Sheet {
			*line = to[*line]
		}
		if 0 < *line && (c.Drop || *line <= c.Shift.Most) {
			moved[p] = v
		}
	}
	m.links = moved
	return m.rewritten(c)
}

// rewritten: each formula behind a change.
func (m model) rewritten(c rewrite.Change) (model, api.Errno) {
	for p, text := range m.cells {
		is, _, e := rewrite.Text(text, api.Place{Book: "b", Sheet: p.sheet}, c)
		if e != api.OK {
			return m, e
		}
		m.cells[p] = is
	}
	for k, text := range m.names {
		is, _, e := rewrite.Text("="+text, api.Place{Book: "b", Sheet: k[0]}, c)
		if e != api.OK {
			return m, e
		}
		m.names[k] = is[1:]
	}
	return m, api.OK
}

// lead: what leads the way back from a change of m; Kind 0: nothing does.
func (m model) lead(o api.Op) api.Op {
	switch o.Kind {
	case api.OpSet:
		return api.Op{Kind: 1, Sheet: o.Sheet, Row: o.Row, Col: o.Col, Text: m.cells[spot{o.Sheet, o.Row, o.Col}]}
	case api.OpRows, api.OpCols:
		return api.Op{Kind: o.Kind, Sheet: o.Sheet, At: o.At, N: -o.N}
	case api.OpSheet:
		return api.Op{Kind: 5, Sheet: o.Sheet}
	case api.OpDrop:
		return api.Op{Kind: 4, Sheet: o.Sheet, At: slices.Index(m.sheets, o.Sheet), Cells: m.cellsOf(o.Sheet)}
	case api.OpMove:
		return api.Op{Kind: 6, Sheet: o.Sheet, At: slices.Index(m.sheets, o.Sheet)}
	case api.OpName:
		return api.Op{Kind: 7, Name: api.Name{Scope: o.Name.Scope, Name: o.Name.Name, Text: m.names[[2]string{o.Name.Scope, o.Name.Name}]}}
	case api.OpLink, api.OpUnlink:
		x := o.Link
		v, there := m.links[api.Place{Book: x.Book, Sheet: x.Sheet, Row: x.Row, Col: x.Col}]
		x.Value = v
		if !there {
			return api.Op{Kind: 9, Link: x}
		}
		return api.Op{Kind: 8, Link: x}
	case api.OpOutRows, api.OpOutCols:
		return api.Op{Kind: o.Kind, Book: o.Book, Sheet: o.Sheet, At: o.At, N: -o.N}
	}
	return api.Op{}
}

// diff: what makes to of m, whose sheets are the same.
func (m model) diff(to model) []api.Op {
	var l []api.Op
	for _, s := range m.sheets {
		for row := 1; row <= 64; row++ {
			for col := 1; col <= 26; col++ {
				if p := (spot{s, row, col}); m.cells[p] != to.cells[p] {
					l = append(l, api.Op{Kind: 1, Sheet: s, Row: row, Col: col, Text: to.cells[p]})
				}
			}
		}
	}
	both := modelOf(m.laid())
	for k, text := range to.names {
		both.names[k] = text
	}
	for p, v := range to.links {
		both.links[p] = v
	}
	all := both.laid()
	for _, x := range all.Names {
		k := [2]string{x.Scope, x.Name}
		if x.Text = to.names[k]; m.names[k] != x.Text {
			l = append(l, api.Op{Kind: 7, Name: x})
		}
	}
	for _, x := range all.Links {
		p := api.Place{Book: x.Book, Sheet: x.Sheet, Row: x.Row, Col: x.Col}
		was, had := m.links[p]
		is, has := to.links[p]
		x.Value = is
		switch {
		case !has:
			l = append(l, api.Op{Kind: 9, Link: x})
		case !had || was != is:
			l = append(l, api.Op{Kind: 8, Link: x})
		}
	}
	return l
}

// back: the way back from what a change made of m, and whether formulas had to be taken away ahead of it.
func (m model) back(o api.Op, made model) ([]api.Op, bool) {
	lead := m.lead(o)
	if lead.Kind == 0 {
		return made.diff(m), false
	}
	back, e := made.do(lead)
	if e == api.OK {
		return append([]api.Op{lead}, back.diff(m)...), false
	}
	clear := made.cleared(lead)
	back, _ = clear.do(lead)
	return slices.Concat(made.diff(clear), []api.Op{lead}, back.diff(m)), true
}

// cleared: without the formulas that a change would make too long; those of a sheet that goes stay.
func (m model) cleared(o api.Op) model {
	m = modelOf(m.laid())
	c := changeOf(o)
	if o.Kind == api.OpDrop {
		c.Drop, c.Shift = true, shift.Shift{}
	}
	long := func(sheet, text string) bool {
		_, _, e := rewrite.Text(text, api.Place{Book: "b", Sheet: sheet}, c)
		return e == api.ErrText && (o.Kind != api.OpDrop || sheet != o.Sheet)
	}
	for p, text := range m.cells {
		if long(p.sheet, text) {
			delete(m.cells, p)
		}
	}
	for k, text := range m.names {
		if long(k[0], "="+text) {
			delete(m.names, k)
		}
	}
	return m
}

// Many, by chance.

var (
	sheetNames = []string{"S", "T", "U", "N", "Jan", "s"}
	bookNames  = []string{"a", "b", "c", "d"}
)

func one[T any](r *rand.Rand, l []T) T { return l[r.Intn(len(l))] }

// anyLine: mostly close to either end.
func anyLine(r *rand.Rand, most int) int {
	switch r.Intn(5) {
	case 0:
		return most - r.Intn(4)
	case 1:
		return 1 + r.Intn(most)
	}
	return 1 + r.Intn(8)
}

// anyRef: the text of a ref or an area.
func anyRef(r *rand.Rand) string {
	where := ""
	switch r.Intn(4) {
	case 0:
		where = one(r, sheetNames) + "!"
	case 1:
		where = "[" + one(r, bookNames) + "]" + one(r, sheetNames[:3]) + "!"
	}
	cell := func() string {
		return addr.Print(api.Ref{Row: anyLine(r, 64), Col: anyLine(r, 26), FixRow: r.Intn(4) == 0})
	}
	if r.Intn(3) == 0 {
		return where + cell() + ":" + cell()
	}
	return where + cell()
}

// anyFormula: without its =; some are about as long as they may be.
func anyFormula(r *rand.Rand) string {
	l := make([]string, 1+r.Intn(4))
	if r.Intn(6) == 0 {
		l = make([]string, 14)
	}
	for i := range l {
		l[i] = anyRef(r)
		if r.Intn(8) == 0 {
			l[i] = one(r, []string{"tax", "1.50", "[c]tax", `"S!A1"`, "TRUE", "#N/A", " a1 "})
		}
	}
	s := "SUM(" + strings.Join(l, ",") + ")"
	if n := 250 + r.Intn(6); len(l) == 14 && len(s) < n-3 {
		s = padded(s, n)
	}
	if r.Intn(4) == 0 {
		s = strings.Join(l[:min(3, len(l))], one(r, []string{"+", "*", "&", " - "}))
	}
	if len(s) > 254 {
		return "1"
	}
	return s
}

func anyText(r *rand.Rand) string {
	if r.Intn(3) == 0 {
		return one(r, []string{"x", "7", "'=A1", "TRUE", "#N/A", bytesOf(255), " "})
	}
	return "=" + anyFormula(r)
}

func anyCells(r *rand.Rand, n int) []api.Cell {
	m := model{sheets: []string{"S"}, cells: map[spot]string{}}
	for range r.Intn(n + 1) {
		m.cells[spot{"S", anyLine(r, 64), anyLine(r, 26)}] = anyText(r)
	}
	return m.cellsOf("S")
}

func anyValue(r *rand.Rand) api.Value {
	return value.Typed(one(r, []string{"", "1", "2.5", "x", "'1", "TRUE", "false", "#REF!", "#N/A", bytesOf(255)}))
}

func anyLink(r *rand.Rand) api.Link {
	return api.Link{Book: one(r, bookNames), Sheet: one(r, sheetNames[:3]), Row: anyLine(r, 64), Col: anyLine(r, 26), Value: anyValue(r)}
}

// anyBook: a book that Check takes; some have as much of a thing as there may be.
func anyBook(r *rand.Rand) api.Book {
	m := model{cells: map[spot]string{}, names: map[[2]string]string{}, links: map[api.Place]api.Value{}}
	for _, i := range r.Perm(len(sheetNames))[:1+r.Intn(4)] {
		m.sheets = append(m.sheets, sheetNames[i])
		for _, c := range anyCells(r, one(r, []int{0, 3, 10})) {
			m.cells[spot{sheetNames[i], c.Row, c.Col}] = c.Text
		}
	}
	for range r.Intn(6) {
		m.names[[2]string{one(r, append(m.sheets, "", "")), one(r, []string{"tax", "rate", "n", "Tax"})}] = anyFormula(r)
	}
	for range r.Intn(10) {
		x := anyLink(r)
		m.links[api.Place{Book: x.Book, Sheet: x.Sheet, Row: x.Row, Col: x.Col}] = x.Value
	}
	switch r.Intn(20) {
	case 0:
		for len(m.cells) < 200 {
			m.cells[spot{one(r, m.sheets), anyLine(r, 64), anyLine(r, 26)}] = anyText(r)
		}
	case 1:
		for _, x := range manyNames("", 32-len(m.names)) {
			m.names[[2]string{"", x.Name}] = anyFormula(r)
		}
	case 2:
		for len(m.links) < 64 {
			x := anyLink(r)
			m.links[api.Place{Book: x.Book, Sheet: x.Sheet, Row: x.Row, Col: x.Col}] = x.Value
		}
	}
	return m.laid()
}

// anyShift: At and N that are mostly good.
func anyShift(r *rand.Rand, most int) (int, int) {
	if r.Intn(12) == 0 {
		l := badLines(most)
		return l[r.Intn(len(l))][0], l[r.Intn(len(l))][1]
	}
	at := anyLine(r, most)
	n := 1 + r.Intn(min(3, most-at+1))
	if r.Intn(10) == 0 {
		n = 1 + r.Intn(most-at+1)
	}
	if r.Intn(2) == 0 {
		n = -n
	}
	return at, n
}

// anyOp: a change that mostly may be done in b; what its kind does not name it has by chance.
func anyOp(r *rand.Rand, b api.Book) api.Op {
	sheets := append([]string{}, sheetNames...)
	for _, s := range b.Sheets {
		sheets = append(sheets, s.Name, s.Name, s.Name)
	}
	o := api.Op{Kind: 1 + r.Intn(12), Book: one(r, bookNames), Sheet: one(r, sheets), Row: anyLine(r, 64), Col: anyLine(r, 26), Text: anyText(r), Link: anyLink(r)}
	o.Name = api.Name{Scope: one(r, append(sheets, "", "", "")), Name: one(r, []string{"tax", "rate", "n", "Tax"}), Text: anyFormula(r)}
	o.At, o.N = anyShift(r, 64)
	switch o.Kind {
	case api.OpCols, api.OpOutCols:
		o.At, o.N = anyShift(r, 26)
	case api.OpSheet:
		o.Sheet, o.At, o.Cells = one(r, sheetNames), r.Intn(len(b.Sheets)+1), anyCells(r, 5)
	case api.OpMove:
		o.At = r.Intn(len(b.Sheets))
	}
	if len(b.Links) > 0 && r.Intn(2) == 0 {
		x := one(r, b.Links)
		o.Link.Book, o.Link.Sheet, o.Link.Row, o.Link.Col = x.Book, x.Sheet, x.Row, x.Col
	}
	if len(b.Names) > 0 && r.Intn(3) == 0 {
		x := one(r, b.Names)
		o.Name.Scope, o.Name.Name = x.Scope, x.Name
	}
	if r.Intn(4) == 0 {
		o.Text, o.Name.Text = "", ""
	}
	return spoiled(r, o)
}

// spoiled: at times, o with something that may not be.
func spoiled(r *rand.Rand, o api.Op) api.Op {
	if r.Intn(6) > 0 {
		return o
	}
	for range 1 + r.Intn(2) {
		switch r.Intn(12) {
		case 0:
			o.Kind = one(r, []int{0, -1, 13, math.MaxInt, math.MinInt})
		case 1:
			o.Book = one(r, noNames())
		case 2:
			o.Sheet = one(r, noNames())
		case 3:
			o.Row = one(r, outsides())
		case 4:
			o.Text, o.Name.Text = bytesOf(256), bytesOf(256)
		case 5:
			o.Text, o.Name.Text = "=1+", "1+"
		case 6:
			o.Name.Name = one(r, noNames())
		case 7:
			o.Name.Scope = one(r, noNames())
		case 8:
			o.Link.Book = one(r, noNames())
		case 9:
			o.Link.Col = one(r, []int{0, 27, math.MinInt})
		case 10:
			o.Link.Value = one(r, badValues())
		case 11:
			o.At = one(r, outsides())
			o.Cells = append(o.Cells, api.Cell{Row: 1, Col: 1, Text: "late"})
		}
	}
	return o
}
