package shift_test

import (
	"math"
	"math/big"
	"math/rand"
	"testing"

	"octavo/api"
	"octavo/shift"
)

// same: has a call answered as it is to?
func same[T comparable](t *testing.T, got, want T, what string, args ...any) {
	if got != want {
		t.Helper() // here, since very many calls pass
		t.Fatalf("%s%v: %#v, want %#v", what, args, got, want)
	}
}

// place: what Pos answers.
type place struct {
	p  int
	ok bool
}

func asked(p int, ok bool) place { return place{p, ok} }

// span: what Span answers.
type span struct {
	lo, hi int
	ok     bool
}

func spanned(lo, hi int, ok bool) span { return span{lo, hi, ok} }

// told: what Cells answers.
type told struct {
	moved, gone []api.Cell
	ok          bool
}

func sent(moved, gone []api.Cell, ok bool) told { return told{moved, gone, ok} }

func of(at, n, most int) shift.Shift { return shift.Shift{At: at, N: n, Most: most} }

// numbers: near the ends of an int, and near those of what there may be.
func numbers() []int {
	return []int{math.MinInt, math.MinInt + 1, math.MinInt + 1000, math.MinInt32, -2000, -1001, -1000, -999, -65, -64, -63, -3, -2, -1, 0, 1, 2, 3, 4, 62, 63, 64, 65, 500, 998, 999, 1000, 1001, 1002, 2000, math.MaxInt32, math.MaxInt - 1000, math.MaxInt - 1, math.MaxInt}
}

// wildShifts: of all numbers; most of them are not good.
func wildShifts() []shift.Shift {
	var l []shift.Shift
	for _, most := range numbers() {
		for _, at := range numbers() {
			for _, n := range numbers() {
				l = append(l, of(at, n, most))
			}
		}
	}
	return l
}

// smallShifts: all that are good, of up to nine lines.
func smallShifts() []shift.Shift {
	var l []shift.Shift
	for most := 1; most <= 9; most++ {
		for at := 1; at <= most; at++ {
			for n := 1; n <= most-at+1; n++ {
				l = append(l, of(at, n, most), of(at, -n, most))
			}
		}
	}
	return l
}

// greatShifts: of a sheet's rows and columns and of as many lines as may be, at the edges and somewhere.
func greatShifts() []shift.Shift {
	r := rand.New(rand.NewSource(1))
	var l []shift.Shift
	for _, most := range []int{26, 64, 999, 1000} {
		for _, at := range []int{1, 2, 3, 1 + r.Intn(most), most - 2, most - 1, most} {
			room := most - at + 1
			for _, n := range []int{1, 2, 1 + r.Intn(room), room - 1, room} {
				if 1 <= n && n <= room {
					l = append(l, of(at, n, most), of(at, -n, most))
				}
			}
		}
	}
	return l
}

func goodShifts() []shift.Shift { return append(smallShifts(), greatShifts()...) }

// badShifts: those of wildShifts that are not good.
func badShifts() []shift.Shift {
	var l []shift.Shift
	for _, s := range wildShifts() {
		if !goodWords(s) {
			l = append(l, s)
		}
	}
	return l
}

// edges: the lines of a good shift at which something else begins, and those beside them, some of them outside.
func edges(s shift.Shift) []int {
	var l []int
	for _, p := range []int{1, s.At, s.At + s.N, s.At - s.N, s.Most, s.Most - s.N, s.Most + s.N, s.Most / 2} {
		l = append(l, p-1, p, p+1)
	}
	return append(l, math.MinInt, math.MinInt+1, -1, s.Most+2, math.MaxInt-1, math.MaxInt)
}

// The second way: the lines as a list.

// goodWords: in numbers that can't run over. The last line that is touched lies within.
func goodWords(s shift.Shift) bool {
	one, most, at, n := big.NewInt(1), big.NewInt(int64(s.Most)), big.NewInt(int64(s.At)), big.NewInt(int64(s.N))
	last := new(big.Int).Add(at, new(big.Int).Abs(n))
	last.Sub(last, one)
	return n.Sign() != 0 && one.Cmp(most) <= 0 && most.Cmp(big.NewInt(1000)) <= 0 && one.Cmp(at) <= 0 && last.Cmp(most) <= 0
}

// grid: where each line of a good shift stands behind it, beyond Most too; 0: it goes.
type grid struct {
	most int
	at   []int
}

// gridOf writes down which line stands where, and looks them up from there.
func gridOf(s shift.Shift) grid {
	var lines []int
	for p := 1; p <= s.Most; p++ {
		for n := s.N; p == s.At && n > 0; n-- {
			lines = append(lines, 0)
		}
		if gone := s.N < 0 && s.At <= p && p <= s.At-s.N-1; !gone {
			lines = append(lines, p)
		}
	}
	g := grid{s.Most, make([]int, s.Most+1)}
	for i, p := range lines {
		if p > 0 {
			g.at[p] = i + 1
		}
	}
	return g
}

// inside: is it one of the lines?
func (g grid) inside(p int) bool { return 1 <= p && p <= g.most }

// pos: what Pos is to answer.
func (g grid) pos(p int) place {
	if !g.inside(p) || g.at[p] == 0 || g.at[p] > g.most {
		return place{}
	}
	return place{g.at[p], true}
}

// span: what Span is to answer: from the first to the last of those lines that is found again, as far as Most.
func (g grid) span(lo, hi int) span {
	if !g.inside(lo) || !g.inside(hi) || lo > hi {
		return span{}
	}
	first, last := 0, 0
	for _, at := range g.at[lo : hi+1] {
		if at > 0 && first == 0 {
			first = at
		}
		if at > 0 {
			last = at
		}
	}
	if first == 0 || first > g.most {
		return span{}
	}
	return span{first, min(last, g.most), true}
}

// cells: what Cells is to answer.
func (g grid) cells(cols bool, l []api.Cell) told {
	all := told{ok: true}
	for _, c := range l {
		p := c.Row
		if cols {
			p = c.Col
		}
		switch {
		case !g.inside(p) || g.at[p] > g.most:
			return told{}
		case g.at[p] == 0:
			all.gone = append(all.gone, c)
		case cols:
			all.moved = append(all.moved, api.Cell{Row: c.Row, Col: g.at[p], Text: c.Text})
		default:
			all.moved = append(all.moved, api.Cell{Row: g.at[p], Col: c.Col, Text: c.Text})
		}
	}
	return all
}
