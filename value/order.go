package value

import (
	"cmp"

	"octavo/api"
)

// The ranks of kinds. Errors and kinds that there are not have one together.
const (
	rankBlank = iota
	rankNum
	rankStr
	rankBool
	rankRest
)

// key: what a value is put in order by: its kind's rank, then its number, then its text.
type key struct {
	rank, n int
	s       string
}

// Cmp: -1, 0 or 1, as a stands ahead of b, with it, or behind it.
func Cmp(a, b api.Value) int {
	x, y := keyOf(kindOf(a)), keyOf(kindOf(b))
	x, y = x.beside(y), y.beside(x)
	return cmp.Or(cmp.Compare(x.rank, y.rank), cmp.Compare(x.n, y.n), cmp.Compare(x.s, y.s))
}

// keyOf: the key of a value, as kindOf tells it.
func keyOf(kind any) key {
	switch k := kind.(type) {
	case number:
		return key{rank: rankNum, n: int(k)}
	case text:
		return key{rank: rankStr, s: Upper(string(k))}
	case truth:
		return key{rank: rankBool, n: k.count()}
	case fault:
		return key{rank: rankRest, n: int(k)}
	case stranger:
		return key{rank: rankRest, n: int(k)}
	}
	return key{rank: rankBlank}
}

// beside: k where it is held against the other one: a Blank's is that of 0, of the empty text or of FALSE, as the other one is. Errors have nothing that a Blank could count as: beside one it stays what it is, below.
func (k key) beside(other key) key {
	if k.rank == rankBlank && other.rank != rankRest {
		return key{rank: other.rank}
	}
	return k
}
