package bytes_test

import (
	"fmt"
	"math"
	"math/big"
	"math/rand"
	"reflect"
	"testing"

	"octavo/api"
	"octavo/bytes"
)

// same: both are the same, where nil and empty lists are.
func same(t *testing.T, what string, got, want any) {
	t.Helper()
	if g, w := fmt.Sprintf("%#v", plain(got)), fmt.Sprintf("%#v", plain(want)); g != w {
		t.Fatalf("%s: %s, want %s", what, g, w)
	}
}

// plain: the value as lists of lists, ints and texts, so that nil and empty lists look alike.
func plain(x any) any {
	v := reflect.ValueOf(x)
	l := []any{}
	switch v.Kind() {
	case reflect.Slice:
		for i := range v.Len() {
			l = append(l, plain(v.Index(i).Interface()))
		}
	case reflect.Struct:
		for i := range v.NumField() {
			l = append(l, plain(v.Field(i).Interface()))
		}
	default:
		return x
	}
	return l
}

// stand: a value's bytes by the document's words alone: what a struct's fields are, and in which order, api's own types say.
func stand(x any) []byte {
	v := reflect.ValueOf(x)
	switch v.Kind() {
	case reflect.Int:
		return digits(v.Int())
	case reflect.String:
		return append(digits(int64(v.Len())), v.String()...)
	case reflect.Slice:
		b := digits(int64(v.Len()))
		for i := range v.Len() {
			b = append(b, stand(v.Index(i).Interface())...)
		}
		return b
	case reflect.Struct:
		b := []byte{}
		for i := range v.NumField() {
			b = append(b, stand(v.Field(i).Interface())...)
		}
		return b
	}
	panic("a kind that does not stand in bytes")
}

// digits: 2n, or -2n - 1, to base 128.
func digits(n int64) []byte {
	x := new(big.Int).Mul(big.NewInt(n), big.NewInt(2))
	if n < 0 {
		x.Neg(x).Sub(x, big.NewInt(1))
	}
	b := []byte{}
	for {
		d := new(big.Int)
		x.DivMod(x, big.NewInt(128), d)
		if x.Sign() == 0 {
			return append(b, byte(d.Int64()))
		}
		b = append(b, byte(d.Int64())+128)
	}
}

// ends: numbers at which the count of bytes changes, and the ends of int.
func ends() []int {
	l := []int{0, 1, -1, 2, -2, 63, 64, -64, -65, math.MaxInt, math.MinInt, math.MaxInt - 1, math.MinInt + 1}
	for shift := 6; shift < 63; shift += 7 {
		n := 1 << shift
		l = append(l, n-1, n, -n, -n-1)
	}
	return l
}

// books: ordinary ones, and such as no program makes.
func books() []api.Book {
	value := api.Value{Kind: api.Str, N: 7, S: "v"}
	return []api.Book{
		{},
		{Sheets: []api.Sheet{{Name: "Sheet"}}},
		{Sheets: []api.Sheet{{Name: "Sheet", Cells: []api.Cell{{Row: 1, Col: 2, Text: "=A1"}, {Row: 64, Col: 26, Text: "ä"}}}, {Name: "Other"}}},
		{Names: []api.Name{{Scope: "Sheet", Name: "tax", Text: "1/5"}, {}}},
		{Links: []api.Link{{Book: "b", Sheet: "s", Row: 3, Col: 4, Value: value}, {}}},
		{
			Sheets: []api.Sheet{{Name: "\x00\xff", Cells: []api.Cell{{Row: math.MinInt, Col: math.MaxInt, Text: "\n"}}}, {}},
			Names:  []api.Name{{Text: "t"}},
			Links:  []api.Link{{Value: api.Value{Kind: -1, N: math.MinInt}}},
		},
	}
}

// fullOp: a change whose fields are all there, and all unlike.
func fullOp() api.Op {
	return api.Op{
		Kind: 1, Book: "book", Sheet: "sheet", At: 2, N: -3, Row: 4, Col: 5, Text: "text",
		Name:  api.Name{Scope: "scope", Name: "name", Text: "1+2"},
		Link:  api.Link{Book: "other", Sheet: "far", Row: 6, Col: 7, Value: api.Value{Kind: 8, N: 9, S: "s"}},
		Cells: []api.Cell{{Row: 10, Col: 11, Text: "x"}, {Row: 12, Col: 13, Text: "yz"}},
	}
}

// groups: lists of changes.
func groups() [][]api.Op {
	return [][]api.Op{
		nil,
		{{}},
		{{Kind: api.OpSet, Sheet: "Sheet", Row: 1, Col: 1, Text: "5"}},
		{fullOp()},
		{fullOp(), {}, {Kind: math.MinInt, At: math.MaxInt}, fullOp()},
	}
}

// fill: chance's value of any type that stands in bytes.
func fill(r *rand.Rand, v reflect.Value) {
	switch v.Kind() {
	case reflect.Int:
		v.SetInt(int64(r.Uint64()) >> r.Intn(64))
	case reflect.String:
		b := make([]byte, r.Intn(4))
		r.Read(b)
		v.SetString(string(b))
	case reflect.Slice:
		for range r.Intn(4) {
			x := reflect.New(v.Type().Elem()).Elem()
			fill(r, x)
			v.Set(reflect.Append(v, x))
		}
	case reflect.Struct:
		for i := range v.NumField() {
			fill(r, v.Field(i))
		}
	}
}

// reading is one of the three Reads, with its writer, for tests that go through all of them.
type reading struct {
	name string
	read func(b []byte) (any, api.Errno)
	// back: what the Read took, written again.
	back func(x any) []byte
	// made: bytes of chance's value.
	made func(r *rand.Rand) []byte
}

// readings: the three.
func readings() []reading {
	return []reading{
		readingOf("ReadBook", bytes.ReadBook, bytes.Book),
		readingOf("ReadOps", bytes.ReadOps, bytes.Ops),
		readingOf("ReadInts", bytes.ReadInts, bytes.Ints),
	}
}

func readingOf[T any](name string, read func([]byte) (T, api.Errno), write func(T) []byte) reading {
	return reading{
		name: name,
		read: func(b []byte) (any, api.Errno) { return read(b) },
		back: func(x any) []byte { return write(x.(T)) },
		made: func(r *rand.Rand) []byte {
			var x T
			fill(r, reflect.ValueOf(&x).Elem())
			return write(x)
		},
	}
}

// empty: the value has nothing in it.
func empty(x any) bool {
	v := reflect.ValueOf(x)
	return v.IsZero() || v.Kind() == reflect.Slice && v.Len() == 0
}

// refused: the Read answers ErrCorrupt, and nothing beside it.
func refused(t *testing.T, c reading, b []byte) {
	t.Helper()
	x, e := c.read(b)
	if e != api.ErrCorrupt || !empty(x) {
		t.Fatalf("%s(% x): %v %v, want nothing and %v", c.name, b, x, e, api.ErrCorrupt)
	}
}

// unframes: b begins with a frame of this content.
func unframes(t *testing.T, what string, b, content []byte) {
	t.Helper()
	got, n, e := bytes.Unframe(b)
	if e != api.OK || n != len(content)+8 || string(got) != string(content) {
		t.Fatalf("Unframe of %s: %d bytes, length %d, %v, want the %d bytes and length %d", what, len(got), n, e, len(content), len(content)+8)
	}
}

// unframed: Unframe answers this error, and nothing beside it.
func unframed(t *testing.T, what string, b []byte, want api.Errno) {
	t.Helper()
	got, n, e := bytes.Unframe(b)
	if e != want || n != 0 || len(got) != 0 {
		t.Fatalf("Unframe of %s: %d bytes, length %d, %v, want nothing and %v", what, len(got), n, e, want)
	}
}

// much: so many bytes, no two neighbours alike.
func much(n int) []byte {
	b := make([]byte, n)
	for i := range b {
		b[i] = byte(i*7 + i>>8)
	}
	return b
}
