package token_test

import (
	"math"
	"math/rand"
	"regexp"
	"slices"
	"strconv"
	"strings"
	"testing"

	"octavo/api"
	"octavo/token"
)

// same: has a call answered as it is to?
func same[T comparable](t *testing.T, got, want T, what string, args ...any) {
	if got != want {
		t.Helper() // here, since very many texts pass
		t.Fatalf("%s%#v: %#v, want %#v", what, args, got, want)
	}
}

// Tokens of each kind.

func number(n int) token.Token   { return token.Token{Kind: 1, N: n} }
func text(s string) token.Token  { return token.Token{Kind: 2, S: s} }
func ref(r api.Ref) token.Token  { return token.Token{Kind: 3, Ref: r} }
func word(s string) token.Token  { return token.Token{Kind: 4, S: s} }
func op(s string) token.Token    { return token.Token{Kind: 5, S: s} }
func fault(n int) token.Token    { return token.Token{Kind: 6, N: n} }
func at(row, col int) api.Ref    { return api.Ref{Row: row, Col: col} }
func cell(r, c int) token.Token  { return ref(at(r, c)) }
func whole(n int) token.Token    { return number(n * 10000) }
func list(l ...token.Token) toks { return l }

func wordOf(book, s string) token.Token {
	return token.Token{Kind: 4, S: s, Ref: api.Ref{Book: book}}
}

func cellOf(book, sheet string, r api.Ref) token.Token {
	r.Book, r.Sheet = book, sheet
	return ref(r)
}

// fixed: with $ ahead of the column, of the row.
func fixed(r api.Ref, col, row bool) api.Ref {
	r.FixCol, r.FixRow = col, row
	return r
}

type toks = []token.Token

// lexes: s is cut into those tokens.
func lexes(t *testing.T, s string, want ...token.Token) {
	t.Helper()
	got, e := token.Lex(s)
	if e != api.OK || !slices.Equal(got, want) {
		t.Fatalf("Lex(%q): %#v, %d, want %#v", s, got, e, want)
	}
}

// refuses: s is answered by an error, and nothing beside it.
func refuses(t *testing.T, s string, want api.Errno) {
	t.Helper()
	got, e := token.Lex(s)
	if e != want || len(got) != 0 {
		t.Fatalf("Lex(%q): %#v, %d, want %d", s, got, e, want)
	}
}

// prints: the tokens' text.
func prints(t *testing.T, want string, l ...token.Token) {
	t.Helper()
	same(t, token.Print(l), want, "Print", l)
}

func faults() []string {
	return []string{"#DIV/0!", "#VALUE!", "#REF!", "#NAME?", "#NUM!", "#N/A", "#CYCLE!", "#LINK!"}
}

// ops: all of them.
func ops() []string {
	return []string{"<>", "<=", ">=", "+", "-", "*", "/", "^", "&", "=", "<", ">", "%", "(", ")", ",", ":"}
}

// sizes: a text with its letters in all sizes.
func sizes(s string) []string {
	l := []string{""}
	for _, c := range s {
		var longer []string
		for _, begin := range l {
			longer = append(longer, begin+strings.ToUpper(string(c)), begin+strings.ToLower(string(c)))
		}
		l = longer
	}
	return l
}

// ints: at their ends, around the ends of numbers and of errors, and small ones.
func ints() []int {
	l := []int{math.MinInt, math.MinInt + 1, math.MinInt32, -api.MaxNum - 1, -api.MaxNum, api.MaxNum, api.MaxNum + 1, math.MaxInt32, math.MaxInt - 1, math.MaxInt, -12500, 15000, 1<<32 + 1, 257}
	for n := -3; n <= 12; n++ {
		l = append(l, n)
	}
	return l
}

// piece: a token's text as it may be typed, and the token.
type piece struct {
	text string
	tok  token.Token
}

// pieces: of each kind several.
func pieces() []piece {
	l := []piece{
		{"0", whole(0)}, {"1", whole(1)}, {"007", whole(7)}, {"1.50", number(15000)}, {"0.0001", number(1)}, {"10000000", number(api.MaxNum)}, {"9999999.9999", number(api.MaxNum - 1)},
		{`""`, text("")}, {`"a"`, text("a")}, {`""""`, text(`"`)}, {`"a""b"`, text(`a"b`)}, {`" "`, text(" ")}, {`"é"`, text("é")}, {"\"\xff\"", text("\xff")}, {`"A1+2"`, text("A1+2")},
		{"A1", cell(1, 1)}, {"z64", cell(64, 26)}, {"$B$7", ref(fixed(at(7, 2), true, true))}, {"e5", cell(5, 5)}, {"Jan!A1", cellOf("", "Jan", at(1, 1))}, {"[Acme]Jan!b$7", cellOf("Acme", "Jan", fixed(at(7, 2), false, true))},
		{"A", word("A")}, {"tax", word("tax")}, {"TRUE", word("TRUE")}, {"faLSe", word("faLSe")}, {"abcdefghijklmnop", word("abcdefghijklmnop")}, {"x_1", word("x_1")}, {"SUM", word("SUM")}, {"[b]tax", wordOf("b", "tax")}, {"[Acme]B", wordOf("Acme", "B")},
	}
	for i, s := range faults() {
		l = append(l, piece{s, fault(i + 1)})
	}
	for _, s := range ops() {
		l = append(l, piece{s, op(s)})
	}
	return l
}

// wrong: texts that hold no token at some place.
func wrong() []string {
	return []string{"!", ".", "_", "'", ";", "{", "}", "]", "\\", "~", "@", "`", "|", "?", "\x00", "\n", "\r", "\v", "\f", "\x1f", "\x7f", "\u00a0", "\u2003", "é", "ſ", "\u212a", "１", "Ａ", "＋", "“", "\xff", "\x80", "\xc3", "\xe2\x82", "\ufffd", "😀", "[", "[]", "[b]", "[b", "$", "$$", "#", `"`, `"a`, `"""`, "1.", "1..2", "A0", "A65", "A100", "a_______________b", "A$", "Jan!", "!A1", "[b]A1", "[b]TRUE", "[A1]tax"}
}

// some: n texts of few pieces, so that many of them are tokens; each time the same.
func some(n int, seed int64) []string {
	parts := []string{"A", "b", "Z", "1", "6", "0", ".", "_", "$", "!", "[", "]", "[b]", "Jan!", "TRUE", "false", "A1", "tax", `"`, `"`, `""`, "#", "#N/A", "#REF!", " ", " ", "\t", "<", ">", "=", "+", "-", "*", "/", "^", "&", "%", "(", ")", ",", ":", "é", "\xff"}
	r := rand.New(rand.NewSource(seed))
	l := make([]string, n)
	for i := range l {
		for range r.Intn(8) {
			l[i] += parts[r.Intn(len(parts))]
		}
	}
	return l
}

// goods: n texts that are tokens with or without blanks about them; each time the same.
func goods(n int, seed int64) []string {
	r := rand.New(rand.NewSource(seed))
	l, all := make([]string, n), pieces()
	for i := range l {
		for range r.Intn(10) {
			l[i] += all[r.Intn(len(all))].text + []string{"", "", " ", "\t", " \t "}[r.Intn(5)]
		}
	}
	return l
}

// short: all texts of some signs up to a length.
func short(length int, signs ...string) []string {
	all, last := []string{""}, []string{""}
	for range length {
		var longer []string
		for _, s := range last {
			for _, c := range signs {
				longer = append(longer, s+c)
			}
		}
		all = append(all, longer...)
		last = longer
	}
	return all
}

// near: texts that are s with one byte more, one less, or another one.
func near(s string) []string {
	l := []string{s}
	for i := range len(s) {
		l = append(l, s[:i]+s[i+1:])
	}
	for i := range len(s) + 1 {
		for b := range 256 {
			c := string([]byte{byte(b)})
			l = append(l, s[:i]+c+s[i:])
			if i < len(s) {
				l = append(l, s[:i]+c+s[i+1:])
			}
		}
	}
	return l
}

// strangers: tokens that Lex does not tell: of other kinds, with what is not good, and with what their kind does not name.
func strangers() []token.Token {
	full := api.Ref{Book: "b", Sheet: "s", Row: 3, Col: 4, FixRow: true, FixCol: true}
	var l []token.Token
	for _, k := range []int{math.MinInt, -1, 0, 1, 2, 3, 4, 5, 6, 7, 8, 100, math.MaxInt} {
		for _, n := range ints() {
			l = append(l, token.Token{Kind: k, N: n})
		}
		for _, s := range []string{"", "x", `"`, " ", "<", "\xff", "é", "A1", "1", strings.Repeat("x", 300)} {
			l = append(l, token.Token{Kind: k, N: 7, S: s, Ref: full}, token.Token{Kind: k, S: s, Ref: api.Ref{Book: s}}, token.Token{Kind: k, S: s, Ref: api.Ref{Book: "b", Sheet: s, Row: 1, Col: 1}})
		}
		for _, row := range ints() {
			l = append(l, token.Token{Kind: k, Ref: at(row, 1)}, token.Token{Kind: k, Ref: at(1, row)}, token.Token{Kind: k, Ref: api.Ref{Book: "b", Row: row, Col: row}})
		}
	}
	return l
}

// The second way: the document's words as patterns, over texts alone.

const aName = `[A-Za-z][A-Za-z0-9_]{0,15}`

var (
	blanks        = regexp.MustCompile(`\A[ \t]+`)
	digitsFirst   = regexp.MustCompile(`\A[0-9][0-9.]*`)
	numberPattern = regexp.MustCompile(`\A([0-9]{1,12})(?:\.([0-9]{1,4}))?\z`)
	faultFirst    = regexp.MustCompile(`\A(?:#DIV/0!|#VALUE!|#REF!|#NAME\?|#NUM!|#N/A|#CYCLE!|#LINK!)`)
	nameFirst     = regexp.MustCompile(`\A(\[` + aName + `\])?[A-Za-z0-9_$]*(![A-Za-z0-9_$]*)?`)
	namePattern   = regexp.MustCompile(`\A` + aName + `\z`)
	truthPattern  = regexp.MustCompile(`\A(?:[Tt][Rr][Uu][Ee]|[Ff][Aa][Ll][Ss][Ee])\z`)
	likeCell      = regexp.MustCompile(`\A[A-Za-z][0-9]+\z`)
	refPattern    = regexp.MustCompile(`\A(?:(?:\[(.*)\])?(.*)!)?(\$?)([A-Za-z])(\$?)([1-9][0-9]?)\z`)
	opFirst       = regexp.MustCompile(`\A(?:<>|<=|>=|[-+*/^&=<>%(),:])`)
)

// isName: chapter 8's good name.
func isName(s string) bool {
	return namePattern.MatchString(s) && !likeCell.MatchString(s) && !truthPattern.MatchString(s)
}

// isRef: chapter 8's ref.
func isRef(s string) (api.Ref, bool) {
	m := refPattern.FindStringSubmatch(s)
	if m == nil || strings.Contains(s, "!") && !isName(m[2]) || strings.Contains(s, "[") && !isName(m[1]) {
		return api.Ref{}, false
	}
	row, _ := strconv.Atoi(m[6])
	if row > 64 {
		return api.Ref{}, false
	}
	return api.Ref{Book: m[1], Sheet: m[2], Row: row, Col: int(strings.ToUpper(m[4])[0]) - 64, FixCol: m[3] != "", FixRow: m[5] != ""}, true
}

// firstNumber, firstText, firstFault, firstName, firstOp: the token that s begins with, and how many bytes it has; 0, if there is none.
func firstNumber(s string) (token.Token, int) {
	begin := digitsFirst.FindString(s)
	m := numberPattern.FindStringSubmatch(begin)
	if m == nil {
		return token.Token{}, 0
	}
	n, _ := strconv.Atoi(m[1] + (m[2] + "0000")[:4])
	if n > 100000000000 {
		return token.Token{}, 0
	}
	return number(n), len(begin)
}

// firstText: the " that closes is the first one of an odd row of them.
func firstText(s string) (token.Token, int) {
	for i := 1; i < len(s); {
		row := len(s[i:]) - len(strings.TrimLeft(s[i:], `"`))
		if row%2 == 1 {
			end := i + row
			return text(strings.ReplaceAll(s[1:end-1], `""`, `"`)), end
		}
		i += max(row, 1)
	}
	return token.Token{}, 0
}

func firstFault(s string) (token.Token, int) {
	begin := faultFirst.FindString(s)
	return fault(slices.Index(faults(), begin) + 1), len(begin)
}

func firstName(s string) (token.Token, int) {
	m := nameFirst.FindStringSubmatch(s)
	book := strings.Trim(m[1], "[]")
	run := m[0][len(m[1]):]
	r, isARef := isRef(m[0])
	switch {
	case m[2] != "" && !isARef, m[1] != "" && !isName(book):
		return token.Token{}, 0
	case isARef:
		return ref(r), len(m[0])
	case isName(run), m[1] == "" && truthPattern.MatchString(run):
		return wordOf(book, run), len(m[0])
	}
	return token.Token{}, 0
}

func firstOp(s string) (token.Token, int) {
	begin := opFirst.FindString(s)
	return op(begin), len(begin)
}

// cut: P9.1.
func cut(s string) ([]token.Token, api.Errno) {
	if len(s) > 255 {
		return nil, 3
	}
	var l []token.Token
	for {
		s = s[len(blanks.FindString(s)):]
		if s == "" {
			return l, 0
		}
		first := firstOp
		switch {
		case strings.Contains("0123456789", s[:1]):
			first = firstNumber
		case s[0] == '"':
			first = firstText
		case s[0] == '#':
			first = firstFault
		case strings.Contains("[$ABCDEFGHIJKLMNOPQRSTUVWXYZabcdefghijklmnopqrstuvwxyz", s[:1]):
			first = firstName
		}
		tok, n := first(s)
		if n == 0 {
			return nil, 10
		}
		l, s = append(l, tok), s[n:]
	}
}
