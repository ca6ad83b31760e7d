package value_test

import (
	"math"
	"math/rand"
	"strings"
	"testing"

	"octavo/api"
	"octavo/num"
)

const most = api.MaxNum

var blank = api.Value{}

func number(n int) api.Value      { return api.Value{Kind: api.Num, N: n} }
func text(s string) api.Value     { return api.Value{Kind: api.Str, S: s} }
func truth(n int) api.Value       { return api.Value{Kind: api.Bool, N: n} }
func bad(n int) api.Value         { return api.Value{Kind: api.Bad, N: n} }
func other(kind, n int) api.Value { return api.Value{Kind: kind, N: n} }

// same: has a call answered as it is to?
func same[T comparable](t *testing.T, got, want T, what string, args ...any) {
	t.Helper()
	if got != want {
		t.Fatalf("%s%#v: %#v, want %#v", what, args, got, want)
	}
}

// shown: what the eight errors show, from 1 on.
func shown() []string {
	return []string{"#DIV/0!", "#VALUE!", "#REF!", "#NAME?", "#NUM!", "#N/A", "#CYCLE!", "#LINK!"}
}

// full: a text of n bytes.
func full(n int) string {
	return strings.Repeat("x", n)
}

// strange: texts that have bytes that begin no character, and characters of each length.
func strange() []string {
	return []string{
		"\xff", "\xff\xff", "\x80", "\xc3", "a\xff", "\xffa", "a\xc3", "a\xe2\x82", "\xe2\x82z", "\xf0\x9f\x98", "\xf0\x9f\x98\xff", "\xed\xa0\x80", "\xc0\xaf", "\xf4\x90\x80\x80", "ab\xfe\xffcd", "\xffz\xffZ\xff",
		"é", "É", "ä", "ß", "ſ", "\u212a", "ı", "İ", "я", "Я", "λ", "€", "😀", "\ufffd", "a\ufffdb", "\ufffd\xff\ufffd", "e\u0301", "\x00", "a\x00b", "日本", "falſe", "FALſE", "ＴＲＵＥ",
	}
}

// texts: of all sorts, those that are typed as something among them.
func texts() []string {
	l := []string{
		"", "'", "''", "'''", "'1", "''1", "'TRUE", "'true", "'#N/A", "'x", "' ", "x'", "1'", " '", " '1",
		"0", "1", "-1", "1.5", "-0", "00", "007", "0.0001", "-0.0001", "10000000", "-10000000", "10000000.0001", "-10000000.0001", "9999999.9999", "999999999999", "1234567890123", "1.23456", "1.", ".5", "+1", "1e5", "1,5", " 1", "1 ", "--1", "-", ".", "1.5.5", "٣", "0x10",
		"TRUE", "FALSE", "true", "false", "True", "fAlSe", "tRUE", "TRUE ", " TRUE", "TRUEE", "TRU", "FALS", "FALSEE", "T", "yes", "TRUE1", "'FALSE",
		"A", "a", "Z", "z", "@", "[", "`", "{", "abc", "ABC", "aBc", "abd", "ab", "hello, World 12", "=A1", "#", "#!", " ", "\n",
		full(api.MaxText - 1), full(api.MaxText), full(api.MaxText + 1), "'" + full(api.MaxText), "'" + full(api.MaxText+1), strings.Repeat("\xff", api.MaxText), strings.Repeat("é", api.MaxText), strings.Repeat("9", 1000), strings.Repeat("'", 1000),
	}
	for _, s := range shown() {
		l = append(l, s, strings.ToLower(s), s+" ", " "+s, s+"!", "#"+s, s[1:], s[:len(s)-1], "'"+s, s+s, strings.ToUpper(s[:2])+strings.ToLower(s[2:]))
	}
	return append(l, strange()...)
}

// ints: numbers at the ends of what is good, beyond them, and small ones.
func ints() []int {
	l := []int{math.MinInt, math.MinInt + 1, -most - 1, -most, 1 - most, -api.Scale, api.Scale, api.Scale - 1, api.Scale + 1, most - 1, most, most + 1, math.MaxInt - 1, math.MaxInt, 15000, -12500, 255, 256}
	for n := -3; n <= 12; n++ {
		l = append(l, n)
	}
	return l
}

// kinds: those that there are, and others.
func kinds() []int {
	return []int{api.Blank, api.Num, api.Str, api.Bool, api.Bad, 5, 6, 100, -1, -2, math.MaxInt, math.MinInt}
}

// values: of each kind with each number, of each with some texts, and of each text.
func values() []api.Value {
	var l []api.Value
	for _, k := range kinds() {
		for _, n := range ints() {
			l = append(l, other(k, n))
		}
		for _, s := range []string{"x", "1", "TRUE", "#N/A", " ", "\xff", full(api.MaxText), full(api.MaxText + 1)} {
			for _, n := range []int{0, 1, 2, -1, 8, 9} {
				l = append(l, api.Value{Kind: k, N: n, S: s})
			}
		}
	}
	for _, s := range texts() {
		l = append(l, text(s))
	}
	return l
}

// goods: values that are good, of each kind.
func goods() []api.Value {
	l := []api.Value{blank, truth(0), truth(1)}
	for n := 1; n <= 8; n++ {
		l = append(l, bad(n))
	}
	for _, n := range ints() {
		if n >= -most && n <= most {
			l = append(l, number(n))
		}
	}
	for _, s := range texts() {
		if len(s) <= api.MaxText {
			l = append(l, text(s))
		}
	}
	return l
}

// some: n texts of few signs, so that many of them are alike, or are typed as something; each time the same.
func some(n int, seed int64) []string {
	parts := []string{"t", "T", "r", "R", "u", "U", "e", "E", "true", "FALSE", "'", "1", "0", "-", ".", "#", "#N/A", "#REF!", "a", "A", "z", "Z", "é", "É", "\xff", "\xc3", "€", "[", "`", " "}
	r := rand.New(rand.NewSource(seed))
	l := make([]string, n)
	for i := range l {
		for range r.Intn(5) {
			l[i] += parts[r.Intn(len(parts))]
		}
	}
	return l
}

// The second way to tell, by the document's words, over bytes and texts alone.

// sized: s with the letters of one list as those of the other.
func sized(s, from, to string) string {
	l := []byte(s)
	for i, b := range l {
		if at := strings.IndexByte(from, b); at >= 0 {
			l[i] = to[at]
		}
	}
	return string(l)
}

const (
	capitals = "ABCDEFGHIJKLMNOPQRSTUVWXYZ"
	smalls   = "abcdefghijklmnopqrstuvwxyz"
)

func capital(s string) string { return sized(s, smalls, capitals) }
func small(s string) string   { return sized(s, capitals, smalls) }

// isGood: P6.1's list.
func isGood(v api.Value) bool {
	noText, noNumber := v.S == "", v.N == 0
	return v.Kind == 0 && noText && noNumber ||
		v.Kind == 1 && noText && v.N >= -100000000000 && v.N <= 100000000000 ||
		v.Kind == 2 && noNumber && len(v.S) < 256 ||
		v.Kind == 3 && noText && (v.N == 0 || v.N == 1) ||
		v.Kind == 4 && noText && v.N > 0 && v.N < 9
}

// shows: P6.1's texts.
func shows(v api.Value) string {
	switch {
	case v.Kind == 1:
		return num.Print(v.N)
	case v.Kind == 2:
		return v.S
	case v.Kind == 3 && v.N == 0:
		return "FALSE"
	case v.Kind == 3:
		return "TRUE"
	case v.Kind == 4 && v.N >= 1 && v.N <= 8:
		return shown()[v.N-1]
	}
	return ""
}

// types: P6.2's list.
func types(s string) api.Value {
	if len(s) == 0 {
		return blank
	}
	if s[0] == '\'' {
		return text(s[1:])
	}
	if n, ok := num.Parse(s); ok {
		return number(n)
	}
	switch small(s) {
	case "true":
		return truth(1)
	case "false":
		return truth(0)
	}
	for i, e := range shown() {
		if e == s {
			return bad(i + 1)
		}
	}
	return text(s)
}

// toNum, toBool: P6.3's lists.
func toNum(v api.Value) (int, int) {
	n, ok := num.Parse(v.S)
	switch {
	case v.Kind == 0, v.Kind == 3 && v.N == 0:
		return 0, 0
	case v.Kind == 1:
		return v.N, 0
	case v.Kind == 2 && ok:
		return n, 0
	case v.Kind == 3:
		return 10000, 0
	case v.Kind == 4:
		return 0, v.N
	}
	return 0, 2
}

func toBool(v api.Value) (bool, int) {
	switch {
	case v.Kind == 0, v.Kind == 2 && capital(v.S) == "FALSE":
		return false, 0
	case v.Kind == 1, v.Kind == 3:
		return v.N != 0, 0
	case v.Kind == 2 && capital(v.S) == "TRUE":
		return true, 0
	case v.Kind == 4:
		return false, v.N
	}
	return false, 2
}

// sign: of a held against b.
func sign(below, above bool) int {
	switch {
	case below:
		return -1
	case above:
		return 1
	}
	return 0
}

// stands: P6.4's order.
func stands(a, b api.Value) int {
	if a.Kind == 0 && b.Kind == 0 {
		return 0
	}
	if a.Kind == 0 && b.Kind >= 1 && b.Kind <= 3 {
		return stands(api.Value{Kind: b.Kind}, b)
	}
	if b.Kind == 0 {
		return -stands(b, a)
	}
	x, y := a.Kind, b.Kind
	if x < 0 || x > 4 {
		x = 4
	}
	if y < 0 || y > 4 {
		y = 4
	}
	switch {
	case x != y:
		return sign(x < y, x > y)
	case x == 2:
		return sign(capital(a.S) < capital(b.S), capital(a.S) > capital(b.S))
	case x == 3:
		return sign(a.N == 0 && b.N != 0, a.N != 0 && b.N == 0)
	}
	return sign(a.N < b.N, a.N > b.N)
}
