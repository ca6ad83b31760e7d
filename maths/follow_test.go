package maths_test

import (
	"math/rand"
	"testing"

	"octavo/api"
	"octavo/maths"
	"octavo/num"
)

// P17.5

// call: what a function answers of values.
func call(t *testing.T, name string, l ...api.Value) api.Value {
	t.Helper()
	v, ok := maths.Call(name, singles(l...))
	if !ok {
		t.Fatalf("there is no %s", name)
	}
	return v
}

// The digits of a number come back as it, unless there are more than DECIMAL takes.
func TestDecimalOfBase(t *testing.T) {
	r := rand.New(rand.NewSource(4))
	l := wholes()
	for n := range 1300 {
		l = append(l, n)
	}
	for range 3000 {
		l = append(l, r.Intn(greatest+1))
	}
	for _, n := range l {
		for b := 2; b <= 36; b++ {
			s := call(t, "BASE", of(n), of(b))
			if n < 0 {
				same(t, s, of("#NUM!"), "BASE", n, b)
				continue
			}
			want := of(n)
			if len(s.S) > 10 {
				want = of("#NUM!")
			}
			same(t, call(t, "DECIMAL", s, of(b)), want, "DECIMAL of BASE", n, b)
		}
	}
}

func TestGcdTimesLcm(t *testing.T) {
	r := rand.New(rand.NewSource(5))
	products := 0
	try := func(a, b int) {
		gcd, lcm := call(t, "GCD", of(a), of(b)), call(t, "LCM", of(a), of(b))
		want, ok := num.Mul(a*scale, b*scale)
		if !ok {
			return
		}
		same(t, lcm.Kind, api.Num, "LCM", a, b)
		got, ok := num.Mul(gcd.N, lcm.N)
		same(t, got, want, "GCD times LCM", a, b)
		same(t, ok, true, "GCD times LCM", a, b)
		products++
	}
	for a := range 200 {
		for b := range 200 {
			try(a, b)
		}
	}
	for range 20000 {
		k := 1 + r.Intn(100)
		try(k*r.Intn(3000/k+1), k*r.Intn(3000/k+1))
	}
	for _, a := range wholes() {
		for _, b := range wholes() {
			if a >= 0 && b >= 0 {
				try(a, b)
			}
		}
	}
	if products < 50000 {
		t.Fatalf("only %d products", products)
	}
}

// What the words of P17.2 and P17.3 come to.
func TestOthersFollow(t *testing.T) {
	for _, n := range edges() {
		x := number(n)
		if v := call(t, "EVEN", x); v.Kind == api.Num {
			same(t, call(t, "ISEVEN", v), truth(true), "ISEVEN of EVEN", n)
		}
		if v := call(t, "ODD", x); v.Kind == api.Num {
			same(t, call(t, "ISODD", v), truth(true), "ISODD of ODD", n)
		}
		same(t, call(t, "INT", x), call(t, "FLOOR", x), "INT and FLOOR", n)
		same(t, call(t, "ISEVEN", x) != call(t, "ISODD", x), true, "ISEVEN and ISODD", n)
		if sign, ok := num.Mul(call(t, "SIGN", x).N, call(t, "ABS", x).N); !ok || sign != n {
			t.Fatal("SIGN times ABS", n, sign)
		}
	}
	for a := range 300 {
		for b := range 300 {
			and, or, xor := call(t, "BITAND", of(a), of(b)), call(t, "BITOR", of(a), of(b)), call(t, "BITXOR", of(a), of(b))
			same(t, and.N+xor.N, or.N, "bits of", a, b)
			same(t, and.N+or.N, (a+b)*scale, "bits of", a, b)
		}
	}
}
