package value

import (
	"strings"

	"octavo/api"
	"octavo/num"
)

const (
	yes   = "TRUE"
	no    = "FALSE"
	quote = "'" // ahead of a text that is to stay one, whatever it looks like
)

// faults: what the errors show, each at its number.
var faults = [...]string{
	api.BadDiv:  "#DIV/0!",
	api.BadVal:  "#VALUE!",
	api.BadRef:  "#REF!",
	api.BadName: "#NAME?",
	api.BadNum:  "#NUM!",
	api.BadNA:   "#N/A",
	api.BadRing: "#CYCLE!",
	api.BadLink: "#LINK!",
}

// known: is there such an error?
func (f fault) known() bool {
	return f >= api.BadDiv && f <= api.BadLink
}

// Text: what v shows.
func Text(v api.Value) string {
	switch k := kindOf(v).(type) {
	case number:
		return num.Print(int(k))
	case text:
		return string(k)
	case truth:
		return k.name()
	case fault:
		return k.name()
	}
	return ""
}

// name: what a truth shows.
func (b truth) name() string {
	if b {
		return yes
	}
	return no
}

// name: what an error shows; nothing, if there is none such.
func (f fault) name() string {
	if !f.known() {
		return ""
	}
	return faults[f]
}

// Typed: the value that is typed by a text.
func Typed(s string) api.Value {
	if s == "" {
		return api.Value{}
	}
	if rest, quoted := strings.CutPrefix(s, quote); quoted {
		return words(rest)
	}
	if n, ok := num.Parse(s); ok {
		return Of(n, ok)
	}
	if b, ok := parseTruth(s); ok {
		return b.value()
	}
	if f, ok := parseFault(s); ok {
		return Bad(int(f))
	}
	return words(s)
}

// parseTruth: the truth of a text, in letters of any size. Only the 26 letters have two sizes here: a sign that other alphabets take for one of them is none.
func parseTruth(s string) (truth, bool) {
	switch Upper(s) {
	case yes:
		return true, true
	case no:
		return false, true
	}
	return false, false
}

// parseFault: the error of a text, which must be just what it shows.
func parseFault(s string) (fault, bool) {
	for f := fault(api.BadDiv); f.known(); f++ {
		if f.name() == s {
			return f, true
		}
	}
	return 0, false
}

// Upper: s in capital letters.
func Upper(s string) string {
	return resized(s, 'a', 'A')
}

// Lower: s in small ones.
func Lower(s string) string {
	return resized(s, 'A', 'a')
}

// resized: s with the 26 letters from one on in another size. A rune that is such a letter is one byte, so all others stay byte for byte, those too that begin no character.
func resized(s string, from, to rune) string {
	l := []byte(s)
	for i, r := range s {
		if r >= from && r < from+26 {
			l[i] = byte(r - from + to)
		}
	}
	return string(l)
}

// Chars: the characters of s, each as a text. They are cut where the next one begins, since a rune that stands for a byte that begins none does not tell how long it was.
func Chars(s string) []string {
	var l []string
	from := 0
	for i := range s {
		if i > from {
			l = append(l, s[from:i])
			from = i
		}
	}
	if s != "" {
		l = append(l, s[from:])
	}
	return l
}
