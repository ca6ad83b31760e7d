package token_test

import (
	"strconv"
	"strings"

	"octavo/api"
)

// runSigns: of which a run is made.
const runSigns = "ABCDEFGHIJKLMNOPQRSTUVWXYZabcdefghijklmnopqrstuvwxyz0123456789_$"

// goodNames: short and long ones, and those that are near to what is none.
func goodNames() []string {
	return []string{
		"A", "a", "Z", "z", "AB", "zz", "tax", "Acme", "Jan", "SUM", "abcdefghijklmnop", "ABCDEFGHIJKLMNOP", "a234567890b23456", "a_______________", "A12345678901234_", "A_", "a_1", "A1_", "A1b", "AB1", "aa99", "A1A1", "Q4_2024", "LOG10",
		"TRU", "TRUEE", "TRUE1", "TRUE_", "xTRUE", "FALS", "FALSEE", "false_", "T", "F", "TRUEFALSE", "REF", "NA", "R1C1", "T1RUE",
	}
}

// badNames: those of other signs, of too many, and those that look like something else.
func badNames() []string {
	return []string{
		"", " ", "_", "$", "!", "[", "]", "1", "0", "_a", "_1", "1a", "$A", "-a", ".a", "'a", "=a", "#a", "a b", " a", "a ", "a\t", "a\n", "\na", "a\x00", "a-b!", "a.b", "a!", "!a", "a$", "a$1", "[a]", "[a", "a]", "a'", "a@", "a`", "a{", "@a", "`a", "{a",
		"abcdefghijklmnopq", "a234567890b234567", "a________________", strings.Repeat("a", 32), strings.Repeat("a", 200), strings.Repeat("_", 16),
		"A1", "a1", "Z9", "A0", "A00", "A01", "A64", "A65", "Z64", "A100", "c000", "A123456789", "a123456789012345",
		"TRUE", "FALSE", "true", "false", "True", "tRuE", "FaLsE",
		"é", "aé", "éa", "ſ", "falſe", "\u212a", "日", "ａ", "a１", "a٣", "\xff", "a\xff", "\xffa", "a\x80", "😀", "\ufffd", "a\u0301",
	}
}

// written: the text of a ref that is good.
func written(r api.Ref) string {
	var b strings.Builder
	if r.Book != "" {
		b.WriteString("[" + r.Book + "]")
	}
	if r.Sheet != "" {
		b.WriteString(r.Sheet + "!")
	}
	if r.FixCol {
		b.WriteString("$")
	}
	b.WriteByte("?ABCDEFGHIJKLMNOPQRSTUVWXYZ"[r.Col])
	if r.FixRow {
		b.WriteString("$")
	}
	b.WriteString(strconv.Itoa(r.Row))
	return b.String()
}
