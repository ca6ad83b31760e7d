package value

import (
	"octavo/api"
	"octavo/num"
)

// ToNum: the number that v is turned into, or which error.
func ToNum(v api.Value) (int, int) {
	switch k := kindOf(v).(type) {
	case blank:
		return 0, 0
	case number:
		return int(k), 0
	case text:
		if n, ok := num.Parse(string(k)); ok {
			return n, 0
		}
	case truth:
		return k.count() * api.Scale, 0
	case fault:
		return 0, int(k)
	}
	return 0, api.BadVal
}

// ToText: the text that v is turned into, or which error.
func ToText(v api.Value) (string, int) {
	if f, ok := kindOf(v).(fault); ok {
		return "", int(f)
	}
	return Text(v), 0
}

// ToBool: is v true, or which error?
func ToBool(v api.Value) (bool, int) {
	switch k := kindOf(v).(type) {
	case blank:
		return false, 0
	case number:
		return k != 0, 0
	case text:
		if b, ok := parseTruth(string(k)); ok {
			return bool(b), 0
		}
	case truth:
		return bool(k), 0
	case fault:
		return false, int(k)
	}
	return false, api.BadVal
}
