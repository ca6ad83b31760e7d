package value_test

import (
	"slices"
	"strings"
	"testing"
	"unicode/utf8"

	"octavo/api"
	"octavo/value"
)

// P6.2

// typed: a text, and what it types.
type typed struct {
	s    string
	want api.Value
}

func allTyped(t *testing.T, l []typed) {
	t.Helper()
	for _, r := range l {
		same(t, value.Typed(r.s), r.want, "Typed", r.s)
	}
}

func TestTypedBlankAndQuoted(t *testing.T) {
	allTyped(t, []typed{
		{"", blank},
		{"'", text("")}, {"''", text("'")}, {"'''", text("''")}, {"'1", text("1")}, {"'-1.5", text("-1.5")}, {"''1", text("'1")}, {"'TRUE", text("TRUE")}, {"'false", text("false")}, {"'#N/A", text("#N/A")}, {"'#REF!", text("#REF!")}, {"'x", text("x")}, {"' ", text(" ")}, {"'=A1", text("=A1")}, {"'\xff", text("\xff")},
		{"'" + full(api.MaxText), text(full(api.MaxText))},
		// Only the first sign counts.
		{"x'", text("x'")}, {"1'", text("1'")}, {" '1", text(" '1")}, {"TRUE'", text("TRUE'")}, {"\"1", text("\"1")}, {"`1", text("`1")}, {"’1", text("’1")},
	})
}

func TestTypedNumbers(t *testing.T) {
	allTyped(t, []typed{
		{"0", number(0)}, {"-0", number(0)}, {"1", number(10000)}, {"-1", number(-10000)}, {"1.5", number(15000)}, {"-1.25", number(-12500)}, {"0.0001", number(1)}, {"007", number(70000)}, {"1.0000", number(10000)}, {"000000000001", number(10000)},
		{"10000000", number(most)}, {"-10000000", number(-most)}, {"10000000.0000", number(most)}, {"9999999.9999", number(most - 1)}, {"-9999999.9999", number(1 - most)},
	})
	for _, s := range []string{"10000000.0001", "-10000000.0001", "10000001", "999999999999", "1234567890123", "0000000000001", "1.23456", "1.", ".5", "-", "--1", "+1", "1e5", "1,5", " 1", "1 ", "1.5.5", "1-", "0x10", "٣", "1\x00", "1\xff"} {
		same(t, value.Typed(s), text(s), "Typed", s)
	}
}

func TestTypedTruths(t *testing.T) {
	for mask := range 32 {
		for n, s := range []string{"false", "true"} {
			b := []byte(s)
			for i := range b {
				if mask>>i&1 == 1 {
					b[i] -= 'a' - 'A'
				}
			}
			same(t, value.Typed(string(b)), truth(n), "Typed", string(b))
		}
	}
	// Signs that other alphabets count as these letters in another size are others here.
	for _, s := range []string{"TRUE ", " TRUE", "TRUEE", "TRU", "RUE", "FALS", "FALSEE", "T", "F", "yes", "TRUE1", "1TRUE", "TRUE\x00", "falſe", "FALſE", "ＴＲＵＥ", "TR\xffUE", "TRUFALSE", "\x14\x12\x15\x05", "Tru%"} {
		same(t, value.Typed(s), text(s), "Typed", s)
	}
}

func TestTypedErrors(t *testing.T) {
	for i, s := range shown() {
		same(t, value.Typed(s), bad(i+1), "Typed", s)
		for _, x := range []string{strings.ToLower(s), s[:len(s)-1] + strings.ToLower(s[len(s)-1:]) + ".", s + " ", " " + s, s + "!", "#" + s, s[1:], s[:len(s)-1], s + s, s[:1] + strings.ToLower(s[1:2]) + s[2:], s + "\x00", "\xff" + s} {
			same(t, value.Typed(x), text(x), "Typed", x)
		}
		same(t, value.Typed("'"+s), text(s), "Typed", "'"+s)
	}
	for _, s := range []string{"#", "!", "#!", "#DIV/0", "#VALUE", "#NAME!", "#N/A!", "#OTHER!", "#NULL!"} {
		same(t, value.Typed(s), text(s), "Typed", s)
	}
}

func TestTypedTexts(t *testing.T) {
	for _, s := range []string{"x", "hello, World 12", "=A1", " ", "\n", "\x00", "é", "\xff", full(api.MaxText), full(api.MaxText + 1)} {
		same(t, value.Typed(s), text(s), "Typed", s)
	}
	same(t, value.Typed("'"+full(api.MaxText+1)), text(full(api.MaxText+1)), "Typed of a long text")
}

func TestTypedOfAllTexts(t *testing.T) {
	for _, s := range append(texts(), some(20000, 1)...) {
		same(t, value.Typed(s), types(s), "Typed", s)
	}
}

func TestUpperAndLower(t *testing.T) {
	for _, r := range [][3]string{
		{"", "", ""}, {"abc", "ABC", "abc"}, {"ABC", "ABC", "abc"}, {"aBcZz", "ABCZZ", "abczz"}, {smalls, capitals, smalls}, {capitals, capitals, smalls}, {"a1 B-2'#", "A1 B-2'#", "a1 b-2'#"}, {"@[`{", "@[`{", "@[`{"}, {"é a É", "é A É", "é a É"}, {"ßſıİ\u212a", "ßſıİ\u212a", "ßſıİ\u212a"}, {"яЯλ", "яЯλ", "яЯλ"}, {"\xffa\xc3Z\xff", "\xffA\xc3Z\xff", "\xffa\xc3z\xff"}, {"a\xff", "A\xff", "a\xff"}, {"\xe1\xc1", "\xe1\xc1", "\xe1\xc1"}, {"z\ufffdz", "Z\ufffdZ", "z\ufffdz"}, {"ａＡa", "ａＡA", "ａＡa"},
	} {
		same(t, value.Upper(r[0]), r[1], "Upper", r[0])
		same(t, value.Lower(r[0]), r[2], "Lower", r[0])
	}
}

// Each byte alone, and beside letters.
func TestUpperAndLowerOfEachByte(t *testing.T) {
	for c := range 256 {
		for _, s := range []string{"", "a", "Z", "é", "\xff"} {
			x := string([]byte{byte(c)})
			for _, s := range []string{x + s, s + x, s + x + s} {
				same(t, value.Upper(s), capital(s), "Upper", s)
				same(t, value.Lower(s), small(s), "Lower", s)
			}
		}
	}
	for _, s := range append(texts(), some(5000, 2)...) {
		same(t, value.Upper(s), capital(s), "Upper", s)
		same(t, value.Lower(s), small(s), "Lower", s)
	}
}

func TestChars(t *testing.T) {
	for _, r := range []struct {
		s    string
		want []string
	}{
		{"", nil}, {"a", []string{"a"}}, {"abc", []string{"a", "b", "c"}}, {"aé€😀", []string{"a", "é", "€", "😀"}}, {"éa", []string{"é", "a"}}, {"日本", []string{"日", "本"}}, {"e\u0301", []string{"e", "\u0301"}}, {"\x00", []string{"\x00"}},
		{"\xff", []string{"\xff"}}, {"\xff\xfe", []string{"\xff", "\xfe"}}, {"a\xff", []string{"a", "\xff"}}, {"\xffa", []string{"\xff", "a"}}, {"a\xc3", []string{"a", "\xc3"}}, {"\xc3a", []string{"\xc3", "a"}}, {"\xe2\x82", []string{"\xe2", "\x82"}}, {"\xe2\x82é", []string{"\xe2", "\x82", "é"}}, {"é\x80", []string{"é", "\x80"}}, {"\xf0\x9f\x98", []string{"\xf0", "\x9f", "\x98"}}, {"\xed\xa0\x80", []string{"\xed", "\xa0", "\x80"}}, {"\xc0\xaf", []string{"\xc0", "\xaf"}}, {"\xf4\x90\x80\x80", []string{"\xf4", "\x90", "\x80", "\x80"}},
		// The character that else stands for such bytes is one of its own.
		{"\ufffd", []string{"\ufffd"}}, {"\ufffd\xff\ufffd", []string{"\ufffd", "\xff", "\ufffd"}}, {"\xef\xbf", []string{"\xef", "\xbf"}},
	} {
		if l := value.Chars(r.s); !slices.Equal(l, r.want) {
			t.Errorf("Chars %q: %q, want %q", r.s, l, r.want)
		}
	}
}

// cut: the characters, by the library's own cuts.
func cut(s string) []string {
	var l []string
	for s != "" {
		_, n := utf8.DecodeRuneInString(s)
		l = append(l, s[:n])
		s = s[n:]
	}
	return l
}

func TestCharsOfAllTexts(t *testing.T) {
	for _, s := range append(append(texts(), some(5000, 3)...), strings.Repeat("aé\xff", 1000)) {
		l := value.Chars(s)
		if !slices.Equal(l, cut(s)) {
			t.Fatalf("Chars %q: %q", s, l)
		}
		same(t, strings.Join(l, ""), s, "all Chars of", s)
	}
}
