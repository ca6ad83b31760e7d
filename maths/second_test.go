package maths_test

import (
	"fmt"
	"math/big"
	"regexp"
	"slices"
	"strings"

	"octavo/api"
)

// The second way: the document's words, with fractions that are exact.

// takes: what functions take: n a number, w a whole number, t a text; several ways, if they take one count or another.
func takes() map[string][]string {
	return map[string][]string{
		"ABS": {"n"}, "SIGN": {"n"}, "INT": {"n"}, "CEILING": {"n"}, "FLOOR": {"n"}, "EVEN": {"n"}, "ODD": {"n"}, "SQRT": {"n"}, "ISEVEN": {"n"}, "ISODD": {"n"}, "FACT": {"w"},
		"ROUND": {"nw"}, "ROUNDUP": {"nw"}, "ROUNDDOWN": {"nw"}, "TRUNC": {"n", "nw"}, "MOD": {"nn"}, "QUOTIENT": {"nn"}, "POWER": {"nn"},
		"COMBIN": {"ww"}, "GCD": {"ww"}, "LCM": {"ww"}, "BITAND": {"ww"}, "BITOR": {"ww"}, "BITXOR": {"ww"},
		"PI": {""}, "BASE": {"ww"}, "DECIMAL": {"tw"},
	}
}

// names: of all functions, in order.
func names() []string {
	var l []string
	for s := range takes() {
		l = append(l, s)
	}
	slices.Sort(l)
	return l
}

// fine: is it a value?
func fine(v api.Value) bool {
	switch v.Kind {
	case api.Blank:
		return v.N == 0 && v.S == ""
	case api.Num:
		return -most <= v.N && v.N <= most && v.S == ""
	case api.Str:
		return len(v.S) <= 255 && v.N == 0
	case api.Bool:
		return (v.N == 0 || v.N == 1) && v.S == ""
	}
	return v.Kind == api.Bad && 1 <= v.N && v.N <= 8 && v.S == ""
}

// may: is it an argument?
func may(a api.Area) bool {
	sides := a.Rows >= 1 && a.Cols >= 1 && a.Rows <= 4096 && a.Cols <= 4096
	return sides && new(big.Int).Mul(big.NewInt(int64(a.Rows)), big.NewInt(int64(a.Cols))).Cmp(big.NewInt(int64(len(a.L)))) == 0 && !slices.ContainsFunc(a.L, func(v api.Value) bool { return !fine(v) })
}

// lone: an argument's value.
func lone(a api.Area) api.Value {
	if may(a) && a.Rows == 1 && a.Cols == 1 {
		return a.L[0]
	}
	return bad(api.BadVal)
}

// rational: the number of a value that is none of the errors; nil, if there is none.
func rational(v api.Value) *big.Rat {
	switch v.Kind {
	case api.Num:
		return big.NewRat(int64(v.N), scale)
	case api.Bool, api.Blank:
		return big.NewRat(int64(v.N), 1)
	}
	if !regexp.MustCompile(`\A-?[0-9]{1,12}(\.[0-9]{1,4})?\z`).MatchString(v.S) {
		return nil
	}
	x, _ := new(big.Rat).SetString(v.S)
	if x.Cmp(big.NewRat(10000000, 1)) > 0 || x.Cmp(big.NewRat(-10000000, 1)) < 0 {
		return nil
	}
	return x
}

// shownAs: the text of a value that is none of the errors.
func shownAs(v api.Value) string {
	switch v.Kind {
	case api.Num:
		s := big.NewRat(int64(v.N), scale).FloatString(4)
		return strings.TrimSuffix(strings.TrimRight(s, "0"), ".")
	case api.Bool:
		return strings.ToUpper(fmt.Sprint(v.N == 1))
	}
	return v.S
}

// told: what a function is to answer.
func told(name string, args []api.Area) api.Value {
	i := slices.IndexFunc(takes()[name], func(s string) bool { return len(s) == len(args) })
	if i < 0 {
		return bad(api.BadVal)
	}
	var l []*big.Rat
	var s string
	for j, kind := range takes()[name][i] {
		v := lone(args[j])
		if v.Kind == api.Bad {
			return v
		}
		if kind == 't' {
			s = shownAs(v)
			continue
		}
		x := rational(v)
		if x == nil {
			return bad(api.BadVal)
		}
		if kind == 'w' && !x.IsInt() {
			return bad(api.BadNum)
		}
		l = append(l, x)
	}
	return reckoned(name, s, l)
}

// as: x as a call is to answer it: nil, and what has more than four places or is beyond the numbers' ends, is none.
func as(x *big.Rat) api.Value {
	if x == nil {
		return bad(api.BadNum)
	}
	x = new(big.Rat).Mul(x, big.NewRat(scale, 1))
	if !x.IsInt() || x.Num().CmpAbs(big.NewInt(most)) > 0 {
		return bad(api.BadNum)
	}
	return number(int(x.Num().Int64()))
}

func integer(n *big.Int) *big.Rat { return new(big.Rat).SetInt(n) }

// down: the greatest whole number that is at most x.
func down(x *big.Rat) *big.Int { return new(big.Int).Div(x.Num(), x.Denom()) }

// up: the least that is at least x.
func up(x *big.Rat) *big.Int {
	n := down(new(big.Rat).Neg(x))
	return n.Neg(n)
}

// cut: x without what is behind its point.
func cut(x *big.Rat) *big.Int { return new(big.Int).Quo(x.Num(), x.Denom()) }

// farther: the whole number that is nearest to x, and no nearer to 0.
func farther(x *big.Rat) *big.Int {
	if x.Sign() < 0 {
		return down(x)
	}
	return up(x)
}

// half: the nearest whole number, a half away from 0.
func half(x *big.Rat) *big.Int {
	h := big.NewRat(int64(x.Sign()), 2)
	return cut(h.Add(x, h))
}

// to: x rounded by f to d places.
func to(x, d *big.Rat, f func(*big.Rat) *big.Int) *big.Rat {
	k := d.Num().Int64()
	if k < -8 || k > 4 {
		return nil
	}
	ten := integer(new(big.Int).Exp(big.NewInt(10), big.NewInt(max(k, -k)), nil))
	if k < 0 {
		ten.Inv(ten)
	}
	n := integer(f(new(big.Rat).Mul(x, ten)))
	return n.Quo(n, ten)
}

// reckoned: what a function is to answer of numbers, and of a text.
func reckoned(name, s string, l []*big.Rat) api.Value {
	switch name {
	case "PI":
		return number(31416)
	case "DECIMAL":
		return as(parsed(s, l[0].Num().Int64()))
	case "ISEVEN":
		return truth(cut(l[0]).Bit(0) == 0)
	case "ISODD":
		return truth(cut(l[0]).Bit(0) == 1)
	}
	if len(l) == 1 {
		return as(ofOne(name, l[0]))
	}
	switch name {
	case "ROUND":
		return as(to(l[0], l[1], half))
	case "ROUNDUP":
		return as(to(l[0], l[1], farther))
	case "ROUNDDOWN", "TRUNC":
		return as(to(l[0], l[1], cut))
	case "POWER":
		return as(power(l[0], l[1]))
	case "MOD", "QUOTIENT":
		if l[1].Sign() == 0 {
			return bad(api.BadDiv)
		}
		q := new(big.Rat).Quo(l[0], l[1])
		if name == "QUOTIENT" {
			return as(integer(cut(q)))
		}
		return as(q.Sub(l[0], q.Mul(l[1], integer(down(q)))))
	}
	return ofInts(name, l[0].Num(), l[1].Num())
}

// ofOne: of one number.
func ofOne(name string, x *big.Rat) *big.Rat {
	switch name {
	case "ABS":
		return x.Abs(x)
	case "SIGN":
		return big.NewRat(int64(x.Sign()), 1)
	case "INT", "FLOOR":
		return integer(down(x))
	case "CEILING":
		return integer(up(x))
	case "TRUNC":
		return integer(cut(x))
	case "EVEN":
		return nearest(x, 0)
	case "ODD":
		return nearest(x, 1)
	case "SQRT":
		return root(x)
	case "FACT":
		if x.Sign() < 0 || x.Cmp(big.NewRat(20, 1)) > 0 {
			return nil
		}
		return integer(new(big.Int).MulRange(1, x.Num().Int64()))
	}
	return nil
}

// nearest: of the whole numbers about x that have that bit and are no nearer to 0 than x, the nearest to x, the greatest of those that are as near.
func nearest(x *big.Rat, bit uint) *big.Rat {
	var best, far *big.Rat
	for i := int64(3); i >= -3; i-- {
		k := integer(new(big.Int).Add(down(x), big.NewInt(i)))
		if k.Num().Bit(0) != bit || new(big.Rat).Abs(k).Cmp(new(big.Rat).Abs(x)) < 0 {
			continue
		}
		d := new(big.Rat).Sub(k, x)
		if d.Abs(d); best == nil || d.Cmp(far) < 0 {
			best, far = k, d
		}
	}
	return best
}

// root: the greatest number of four places whose square is at most x.
func root(x *big.Rat) *big.Rat {
	if x.Sign() < 0 {
		return nil
	}
	n := down(new(big.Rat).Mul(x, big.NewRat(scale*scale, 1)))
	return new(big.Rat).Quo(integer(n.Sqrt(n)), big.NewRat(scale, 1))
}

// places4: x, rounded to four places; nil, if it is beyond the numbers' ends.
func places4(x *big.Rat) *big.Rat {
	x = to(x, big.NewRat(4, 1), half)
	if new(big.Rat).Abs(x).Cmp(big.NewRat(10000000, 1)) > 0 {
		return nil
	}
	return x
}

// power: the product of b numbers a, rounded behind each.
func power(a, b *big.Rat) *big.Rat {
	if !b.IsInt() || b.Num().CmpAbs(big.NewInt(64)) > 0 || a.Sign() == 0 && b.Sign() == 0 {
		return nil
	}
	x := big.NewRat(1, 1)
	for range new(big.Int).Abs(b.Num()).Int64() {
		if x = places4(new(big.Rat).Mul(x, a)); x == nil {
			return nil
		}
	}
	if b.Sign() >= 0 {
		return x
	}
	if x.Sign() == 0 {
		return nil
	}
	return places4(x.Inv(x))
}

// ofInts: of two whole numbers.
func ofInts(name string, a, b *big.Int) api.Value {
	n := new(big.Int)
	switch {
	case a.Sign() < 0 || name != "BASE" && b.Sign() < 0:
		return bad(api.BadNum)
	case name == "BASE" && (b.Int64() < 2 || b.Int64() > 36):
		return bad(api.BadNum)
	}
	switch name {
	case "BASE":
		return text(strings.ToUpper(a.Text(int(b.Int64()))))
	case "COMBIN":
		return as(choices(a.Int64(), b.Int64()))
	case "GCD":
		n.GCD(nil, nil, a, b)
	case "LCM":
		if g := new(big.Int).GCD(nil, nil, a, b); g.Sign() > 0 {
			n.Div(n.Mul(a, b), g)
		}
	case "BITAND":
		n.And(a, b)
	case "BITOR":
		n.Or(a, b)
	case "BITXOR":
		n.Xor(a, b)
	}
	return as(integer(n))
}

// choices: the binomial coefficient. Where it is beyond all numbers for certain it is not reckoned.
func choices(n, k int64) *big.Rat {
	if k > n {
		return new(big.Rat)
	}
	if k = min(k, n-k); k > 30 {
		return nil
	}
	return integer(new(big.Int).Binomial(n, k))
}

// parsed: the number of a text to a base.
func parsed(s string, b int64) *big.Rat {
	const digits = "0123456789abcdefghijklmnopqrstuvwxyz"
	if b < 2 || b > 36 || !regexp.MustCompile(`\A[0-9A-Za-z]{1,10}\z`).MatchString(s) || strings.Trim(strings.ToLower(s), digits[:b]) != "" {
		return nil
	}
	n, _ := new(big.Int).SetString(s, int(b))
	return integer(n)
}
