package num_test

import (
	"testing"

	"octavo/api"
	"octavo/num"
)

// P5.4

func TestParseOfPrint(t *testing.T) {
	l := append(edges(), some(20000, 9)...)
	for n := -20000; n <= 20000; n++ {
		l = append(l, n)
	}
	for _, n := range l {
		parsed(t, num.Print(n), n)
	}
	for _, n := range bad() {
		unparsed(t, num.Print(n))
	}
}

func TestAddAndSubUndoEachOther(t *testing.T) {
	fine := 0
	for _, p := range pairs() {
		a, b := p[0], p[1]
		if n, ok := num.Add(a, b); ok {
			n, ok = num.Sub(n, b)
			tells(t, n, ok, a, "Sub of Add", a, b)
			fine++
		}
		if n, ok := num.Sub(a, b); ok {
			n, ok = num.Add(n, b)
			tells(t, n, ok, a, "Add of Sub", a, b)
		}
	}
	if fine < 10000 {
		t.Fatalf("only %d sums were good", fine)
	}
}

func TestAddAndMulAreCommutative(t *testing.T) {
	for _, p := range pairs() {
		a, b := p[0], p[1]
		n, ok := num.Add(a, b)
		m, fine := num.Add(b, a)
		answers(t, m, fine, n, ok, "Add", b, a)
		n, ok = num.Mul(a, b)
		m, fine = num.Mul(b, a)
		answers(t, m, fine, n, ok, "Mul", b, a)
	}
}

func TestDivUndoesMul(t *testing.T) {
	fine := 0
	for _, p := range pairs() {
		a, b := p[0], p[1]/api.Scale*api.Scale
		if n, ok := num.Mul(a, b); ok && b != 0 {
			n, ok = num.Div(n, b)
			tells(t, n, ok, a, "Div of Mul", a, b)
			fine++
		}
	}
	if fine < 1000 {
		t.Fatalf("only %d products were good", fine)
	}
}

func TestModLiesBetween(t *testing.T) {
	for _, p := range pairs() {
		a, b := p[0], p[1]
		n, ok := num.Mod(a, b)
		if !ok {
			continue
		}
		if b > 0 && (n < 0 || n >= b) || b < 0 && (n > 0 || n <= b) {
			t.Fatalf("Mod %d %d: %d", a, b, n)
		}
	}
}

// b as often as Quo tells it, and what is left, which has a's sign and is less than b.
func TestPartsOfQuo(t *testing.T) {
	fine := 0
	for _, p := range pairs() {
		a, b := p[0], p[1]
		times, ok := num.Quo(a, b)
		if !ok {
			continue
		}
		fine++
		if _, ok = num.Whole(times); !ok {
			t.Fatalf("Quo %d %d: %d is not whole", a, b, times)
		}
		part, ok := num.Mul(times, b)
		rest, is := num.Sub(a, part)
		if !ok || !is || rest < 0 && a > 0 || rest > 0 && a < 0 || max(rest, -rest) >= max(b, -b) {
			t.Fatalf("Quo %d %d: %d, and the rest is %d", a, b, times, rest)
		}
		n, ok := num.Add(part, rest)
		tells(t, n, ok, a, "the parts of", a, b)
	}
	if fine < 1000 {
		t.Fatalf("only %d quotients were good", fine)
	}
}
