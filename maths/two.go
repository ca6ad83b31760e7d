package maths

import (
	"octavo/api"
	"octavo/num"
	"octavo/value"
)

// ofPlaces: the functions that round a number to places.
func ofPlaces(name string) function {
	two := taking(number, whole)
	switch name {
	case "ROUND":
		return two(places(toNearest))
	case "ROUNDUP":
		return two(places(awayFromZero))
	case "ROUNDDOWN":
		return two(places(towardsZero))
	case "TRUNC":
		return either(taking(number)(single(rounding(towardsZero))), two(places(towardsZero)))
	}
	return nil
}

// places: the reckoning that rounds the first number to as many places as the second one says.
func places(how int) reckoning {
	return pair(func(x, d int) (int, bool) {
		return num.Round(x, d, how)
	})
}

// either: a function that is one of two: short, if it is given one argument, else long.
func either(short, long function) function {
	return func(args []api.Area) api.Value {
		if len(args) == 1 {
			return short(args)
		}
		return long(args)
	}
}

// ofTwo: the functions of two numbers.
func ofTwo(name string) function {
	two := taking(number, number)
	switch name {
	case "MOD":
		return two(divided(num.Mod))
	case "QUOTIENT":
		return two(divided(num.Quo))
	case "POWER":
		return two(pair(num.Pow))
	}
	return nil
}

// divided: the reckoning that a function is whose second number is a divisor.
func divided(f func(a, b int) (int, bool)) reckoning {
	return func(l ...int) api.Value {
		if l[1] == 0 {
			return value.Bad(api.BadDiv)
		}
		return value.Of(f(l[0], l[1]))
	}
}

// ofTwoWhole: the functions of two whole numbers.
func ofTwoWhole(name string) function {
	two := taking(whole, whole)
	switch name {
	case "COMBIN":
		return two(pair(num.Comb))
	case "GCD":
		return two(counted(num.Gcd))
	case "LCM":
		return two(counted(multiple))
	case "BITAND":
		return two(counted(func(a, b int) int { return a & b }))
	case "BITOR":
		return two(counted(func(a, b int) int { return a | b }))
	case "BITXOR":
		return two(counted(func(a, b int) int { return a ^ b }))
	}
	return nil
}

// counted: the reckoning that a function is of two ints from 0 on.
func counted(f func(a, b int) int) reckoning {
	return func(l ...int) api.Value {
		if l[0] < 0 || l[1] < 0 {
			return value.Bad(api.BadNum)
		}
		return ofWhole(f(l[0], l[1]))
	}
}

// multiple: the least int that both divide; 0, if one of them is 0.
func multiple(a, b int) int {
	if a == 0 || b == 0 {
		return 0
	}
	return a / num.Gcd(a, b) * b
}
