package journal_test

import (
	"encoding/binary"
	"fmt"
	"hash/crc32"
	"math"
	"math/big"
	"reflect"
	"strings"
	"testing"

	"octavo/api"
	"octavo/journal"
)

// stand: a value's bytes by the document's words alone: what a struct's fields are, and in which order, api's own types say.
func stand(x any) []byte {
	v := reflect.ValueOf(x)
	switch v.Kind() {
	case reflect.Int:
		return digits(v.Int())
	case reflect.String:
		return append(digits(int64(v.Len())), v.String()...)
	case reflect.Slice:
		b := digits(int64(v.Len()))
		for i := range v.Len() {
			b = append(b, stand(v.Index(i).Interface())...)
		}
		return b
	case reflect.Struct:
		b := []byte{}
		for i := range v.NumField() {
			b = append(b, stand(v.Field(i).Interface())...)
		}
		return b
	}
	panic("a kind that does not stand in bytes")
}

// digits: 2n, or -2n - 1, to base 128.
func digits(n int64) []byte {
	x := new(big.Int).Mul(big.NewInt(n), big.NewInt(2))
	if n < 0 {
		x.Neg(x).Sub(x, big.NewInt(1))
	}
	b := []byte{}
	for {
		d := new(big.Int)
		x.DivMod(x, big.NewInt(128), d)
		if x.Sign() == 0 {
			return append(b, byte(d.Int64()))
		}
		b = append(b, byte(d.Int64())+128)
	}
}

// join: parts, one behind the other, in memory of their own.
func join(parts ...[]byte) []byte {
	var b []byte
	for _, p := range parts {
		b = append(b, p...)
	}
	return b
}

// framed: by the document's words alone, however long the content is.
func framed(content []byte) []byte {
	b := append(binary.LittleEndian.AppendUint32(nil, uint32(len(content))), content...)
	return binary.LittleEndian.AppendUint32(b, crc32.ChecksumIEEE(b))
}

// head: the frame of these numbers: a header, if they are 7 and an id.
func head(numbers ...int) []byte { return framed(stand(numbers)) }

// groupOf: the frame of a group, be its number and its changes right or wrong.
func groupOf(seq int, l []api.Op) []byte { return framed(join(stand([]int{seq}), stand(l))) }

// logOf: a whole journal.
func logOf(id int, groups [][]api.Op) []byte {
	b := head(7, id)
	for i, l := range groups {
		b = append(b, groupOf(i+1, l)...)
	}
	return b
}

// set: a change that is told from others by its number.
func set(n int) api.Op {
	return api.Op{Kind: api.OpSet, Sheet: "Sheet", Row: n, Col: 1, Text: fmt.Sprint(n)}
}

// fullOp: a change whose fields are all there, and all unlike.
func fullOp() api.Op {
	return api.Op{
		Kind: 1, Book: "book", Sheet: "sheet", At: 2, N: -3, Row: 4, Col: 5, Text: "text",
		Name:  api.Name{Scope: "scope", Name: "name", Text: "1+2"},
		Link:  api.Link{Book: "other", Sheet: "far", Row: 6, Col: 7, Value: api.Value{Kind: 8, N: 9, S: "s"}},
		Cells: []api.Cell{{Row: 10, Col: 11, Text: "x"}, {Row: 12, Col: 13, Text: "yz"}},
	}
}

// changes: lists that a group may have.
func changes() [][]api.Op {
	return [][]api.Op{
		{{}},
		{set(5)},
		{fullOp()},
		{set(1), set(2), set(3)},
		{fullOp(), {}, {Kind: math.MinInt, At: math.MaxInt}, {Text: "\x00\xff\n"}, fullOp()},
		{set(5)},
		{{Kind: 99}, {Kind: -1}},
	}
}

// many: so many groups of one change each.
func many(n int) [][]api.Op {
	l := make([][]api.Op, n)
	for i := range l {
		l[i] = []api.Op{set(i)}
	}
	return l
}

// long: a change whose group of this number has just so many bytes of content.
func long(t *testing.T, seq, size int) []api.Op {
	t.Helper()
	l := []api.Op{set(1)}
	// The text's count takes as many bytes for all lengths near to size: the second step hits it.
	for range 3 {
		l[0].Text = strings.Repeat("x", len(l[0].Text)+size-len(groupOf(seq, l))+8)
	}
	if n := len(groupOf(seq, l)) - 8; n != size {
		t.Fatalf("a group of %d bytes, want %d", n, size)
	}
	return l
}

// ids: negative, 0, small and great.
func ids() []int {
	return []int{0, 1, -1, 5, 6, 7, 14, -7, 63, 64, -64, -65, 127, 128, 255, 256, 1 << 16, 1<<32 - 1, 1 << 32, 0xcbf43926, -0xcbf43926, 1<<62 - 1, 1 << 62, math.MaxInt - 1, math.MaxInt, math.MinInt + 1, math.MinInt}
}

// show: groups as a text; nil and empty lists look alike.
func show(groups [][]api.Op) string {
	var s strings.Builder
	fmt.Fprintf(&s, "%d groups", len(groups))
	for _, l := range groups {
		fmt.Fprintf(&s, " %q", stand(l))
	}
	return s.String()
}

// short: of a text that may be a long one.
func short(s string) string {
	if len(s) > 400 {
		return s[:400] + ".."
	}
	return s
}

// same: both texts are the same.
func same(t *testing.T, what, got, want string) {
	t.Helper()
	if got != want {
		t.Fatalf("%s: %q, want %q", what, short(got), short(want))
	}
}

// grouped: Group tells these bytes.
func grouped(t *testing.T, what string, seq int, l []api.Op, want []byte) {
	t.Helper()
	b, e := journal.Group(seq, l)
	if e != api.OK || string(b) != string(want) {
		t.Fatalf("Group(%d) of %s: %q %v, want %q", seq, what, short(string(b)), e, short(string(want)))
	}
}

// ungrouped: Group answers this error, and nothing beside it.
func ungrouped(t *testing.T, what string, seq int, l []api.Op, want api.Errno) {
	t.Helper()
	if b, e := journal.Group(seq, l); e != want || len(b) != 0 {
		t.Fatalf("Group(%d) of %s: %d bytes, %v, want none and %v", seq, what, len(b), e, want)
	}
}

// scans: Scan tells a journal that is bound, with these groups, that are good up to there.
func scans(t *testing.T, what string, b []byte, id int, groups [][]api.Op, good int) {
	t.Helper()
	x := journal.Scan(b, id)
	if !x.Bound || x.Good != good {
		t.Fatalf("Scan of %s for %d: bound %v, good %d, want it bound, and %d", what, id, x.Bound, x.Good, good)
	}
	same(t, "Scan of "+what, show(x.Groups), show(groups))
}

// unbound: Scan tells that the journal is not bound, and nothing beside it.
func unbound(t *testing.T, what string, b []byte, id int) {
	t.Helper()
	if x := journal.Scan(b, id); x.Bound || x.Good != 0 || len(x.Groups) != 0 {
		t.Fatalf("Scan of %s for %d: bound %v, good %d, %d groups, want nothing", what, id, x.Bound, x.Good, len(x.Groups))
	}
}

// added: Add tells these bytes.
func added(t *testing.T, what string, b []byte, l []api.Op, want []byte) {
	t.Helper()
	got, e := journal.Add(b, l)
	if e != api.OK || string(got) != string(want) {
		t.Fatalf("Add to %s: %q %v, want %q", what, short(string(got)), e, short(string(want)))
	}
}

// unadded: Add answers this error, and nothing beside it.
func unadded(t *testing.T, what string, b []byte, l []api.Op, want api.Errno) {
	t.Helper()
	if got, e := journal.Add(b, l); e != want || len(got) != 0 {
		t.Fatalf("Add to %s: %d bytes, %v, want none and %v", what, len(got), e, want)
	}
}
