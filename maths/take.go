package maths

import (
	"octavo/api"
	"octavo/num"
	"octavo/value"
)

const mostWhole = api.MaxNum / api.Scale // the greatest whole number

type (
	function  func(args []api.Area) api.Value // what is answered of arguments
	reckoning func(l ...int) api.Value        // what is answered of the numbers that they stand for
	turn      func(a api.Area) (int, int)     // the number that one of them stands for, or which error
)

// number: the number of an argument, or which error.
func number(a api.Area) (int, int) {
	return value.ToNum(One(a))
}

// whole: the whole number of an argument, as an int, or which error.
func whole(a api.Area) (int, int) {
	n, bad := number(a)
	if bad != 0 {
		return 0, bad
	}
	k, ok := num.Whole(n)
	if !ok {
		return 0, api.BadNum
	}
	return k, 0
}

// taking: what makes a function of a reckoning with as many numbers as there are turns: the function turns its arguments from the left, up to the first that does not stand for a number.
func taking(turns ...turn) func(f reckoning) function {
	return func(f reckoning) function {
		return func(args []api.Area) api.Value {
			if len(args) != len(turns) {
				return value.Bad(api.BadVal)
			}
			var l []int
			for i, a := range args {
				n, bad := turns[i](a)
				if bad != 0 {
					return value.Bad(bad)
				}
				l = append(l, n)
			}
			return f(l...)
		}
	}
}

// single: the reckoning that a function of one number is.
func single(f func(x int) (int, bool)) reckoning {
	return func(l ...int) api.Value {
		return value.Of(f(l[0]))
	}
}

// pair: the reckoning that a function of two numbers is.
func pair(f func(a, b int) (int, bool)) reckoning {
	return func(l ...int) api.Value {
		return value.Of(f(l[0], l[1]))
	}
}

// ofWhole: the number that an int is, or #NUM!, if it is none. An int that is too great is not made ten-thousandths of, so that no product wraps.
func ofWhole(n int) api.Value {
	if n < -mostWhole || n > mostWhole {
		return value.Bad(api.BadNum)
	}
	return value.Of(n*api.Scale, true)
}
