package addr

import (
	"octavo/api"
	"octavo/value"
)

const longestName = 16

// GoodName: may a book, a sheet, a name be called so?
func GoodName(s string) bool {
	return spelled(s) && !likeCell(s) && !likeTruth(s)
}

// spelled: has s as many signs as a name may have, and those alone?
func spelled(s string) bool {
	if len(s) < 1 || len(s) > longestName || !letter(s[0]) {
		return false
	}
	for _, c := range []byte(s) {
		if !letter(c) && !digit(c) && c != '_' {
			return false
		}
	}
	return true
}

// likeCell: has s digits alone behind its first letter? A cell beyond the sheet's end is no name either, so that nobody takes one for the other.
func likeCell(s string) bool {
	for _, c := range []byte(s[1:]) {
		if !digit(c) {
			return false
		}
	}
	return len(s) > 1
}

// likeTruth: would s be typed as TRUE or FALSE?
func likeTruth(s string) bool {
	return value.Typed(s).Kind == api.Bool
}

// letter: is c one of the 26, in either size?
func letter(c byte) bool {
	return c >= 'A' && c <= 'Z' || c >= 'a' && c <= 'z'
}

func digit(c byte) bool {
	return c >= '0' && c <= '9'
}
