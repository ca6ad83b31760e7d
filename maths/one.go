package maths

import (
	"cmp"

	"octavo/api"
	"octavo/num"
)

// The ways to round, as num's Round counts them.
const (
	toNearest = iota
	awayFromZero
	towardsZero
	upwards
	downwards
)

// What is left of whole numbers, when twos are taken away.
const (
	even = 0
	odd  = 1
)

// ofOne: the functions of one number.
func ofOne(name string) function {
	one := taking(number)
	switch name {
	case "ABS":
		return one(single(size))
	case "SIGN":
		return one(single(sign))
	case "INT", "FLOOR":
		return one(single(rounding(downwards)))
	case "CEILING":
		return one(single(rounding(upwards)))
	case "EVEN":
		return one(next(even))
	case "ODD":
		return one(next(odd))
	case "SQRT":
		return one(single(num.Sqrt))
	case "ISEVEN":
		return one(is(even))
	case "ISODD":
		return one(is(odd))
	case "FACT":
		return taking(whole)(single(num.Fact))
	}
	return nil
}

// size: x without its sign.
func size(x int) (int, bool) {
	return max(x, -x), true
}

// sign: -1, 0 or 1, as a number.
func sign(x int) (int, bool) {
	return cmp.Compare(x, 0) * api.Scale, true
}

// rounding: what rounds to a whole number, in one way.
func rounding(how int) func(x int) (int, bool) {
	return func(x int) (int, bool) {
		return num.Round(x, 0, how)
	}
}

// next: the reckoning of the nearest number, even or odd, that is not nearer to 0. Where the nearest whole one is of the other sort, the next one behind it is meant; behind 0 that is 1.
func next(sort int) reckoning {
	return func(l ...int) api.Value {
		n, _ := num.Round(l[0], 0, awayFromZero)
		k := n / api.Scale
		if sortOf(k) == sort {
			return ofWhole(k)
		}
		if k < 0 {
			return ofWhole(k - 1)
		}
		return ofWhole(k + 1)
	}
}

// is: the reckoning of whether a number, without what is behind its point, is even or odd.
func is(sort int) reckoning {
	return func(l ...int) api.Value {
		if sortOf(l[0]/api.Scale) == sort {
			return api.Value{Kind: api.Bool, N: 1}
		}
		return api.Value{Kind: api.Bool}
	}
}

// sortOf: is k even or odd?
func sortOf(k int) int {
	if k%2 == 0 {
		return even
	}
	return odd
}
