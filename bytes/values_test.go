package bytes_test

import (
	"math"
	"math/rand"
	"reflect"
	"testing"

	"octavo/api"
	"octavo/bytes"
)

// P2.2

func TestNumbersInBytes(t *testing.T) {
	top := []byte{255, 255, 255, 255, 255, 255, 255, 255, 255, 1}
	for _, c := range []struct {
		n int
		b []byte
	}{
		{0, []byte{0}}, {-1, []byte{1}}, {1, []byte{2}}, {-2, []byte{3}},
		{63, []byte{126}}, {-64, []byte{127}}, {64, []byte{128, 1}}, {-65, []byte{129, 1}},
		{8191, []byte{254, 127}}, {-8192, []byte{255, 127}}, {8192, []byte{128, 128, 1}}, {-8193, []byte{129, 128, 1}},
		{math.MaxInt, append([]byte{254}, top[1:]...)}, {math.MinInt, top},
	} {
		b := append([]byte{2}, c.b...)
		same(t, "Ints", bytes.Ints([]int{c.n}), b)
		l, e := bytes.ReadInts(b)
		same(t, "error", e, api.OK)
		same(t, "ReadInts", l, []int{c.n})
	}
}

func TestIntsInBytes(t *testing.T) {
	same(t, "three", bytes.Ints([]int{0, -1, 64}), []byte{6, 0, 1, 128, 1})
	same(t, "none", bytes.Ints(nil), []byte{0})
	same(t, "the ends", bytes.Ints(ends()), stand(ends()))
	many := make([]int, 64)
	same(t, "a count of two bytes", bytes.Ints(many), append([]byte{128, 1}, make([]byte, 64)...))
}

func TestBookInBytes(t *testing.T) {
	same(t, "an empty one", bytes.Book(api.Book{}), []byte{0, 0, 0})
	x := api.Book{
		Sheets: []api.Sheet{{Name: "S", Cells: []api.Cell{{Row: 1, Col: 2, Text: "=A1"}}}, {}},
		Names:  []api.Name{{Scope: "p", Name: "q", Text: "r"}},
		Links:  []api.Link{{Book: "b", Sheet: "c", Row: 3, Col: 4, Value: api.Value{Kind: api.Bad, N: -5, S: "d"}}},
	}
	same(t, "a small one", bytes.Book(x), []byte{
		4, 2, 'S', 2, 2, 4, 6, '=', 'A', '1', 0, 0,
		2, 2, 'p', 2, 'q', 2, 'r',
		2, 2, 'b', 2, 'c', 6, 8, 8, 9, 2, 'd',
	})
	for _, x := range books() {
		same(t, "Book", bytes.Book(x), stand(x))
	}
}

func TestOpsInBytes(t *testing.T) {
	same(t, "none", bytes.Ops(nil), []byte{0})
	same(t, "an empty one", bytes.Ops(make([]api.Op, 1)), append([]byte{2}, make([]byte, 19)...))
	same(t, "a full one", bytes.Ops([]api.Op{fullOp()}), []byte{
		2, 2, 8, 'b', 'o', 'o', 'k', 10, 's', 'h', 'e', 'e', 't', 4, 5, 8, 10, 8, 't', 'e', 'x', 't',
		10, 's', 'c', 'o', 'p', 'e', 8, 'n', 'a', 'm', 'e', 6, '1', '+', '2',
		10, 'o', 't', 'h', 'e', 'r', 6, 'f', 'a', 'r', 12, 14, 16, 18, 2, 's',
		4, 20, 22, 2, 'x', 24, 26, 4, 'y', 'z',
	})
	for _, l := range groups() {
		same(t, "Ops", bytes.Ops(l), stand(l))
	}
}

func TestTextsOfManyBytes(t *testing.T) {
	for _, n := range []int{63, 64, api.MaxText, api.MaxText + 1, 1 << 16} {
		l := []api.Op{{Text: string(much(n))}}
		same(t, "Ops", bytes.Ops(l), stand(l))
		got, e := bytes.ReadOps(bytes.Ops(l))
		same(t, "error", e, api.OK)
		same(t, "ReadOps", got, l)
	}
}

func TestNumbersThatAreTooLong(t *testing.T) {
	ints := readings()[2]
	for _, n := range ends() {
		b := digits(int64(n))
		b[len(b)-1] += 128
		refused(t, ints, append(append([]byte{2}, b...), 0))
		refused(t, ints, append(append([]byte{2}, b...), 128, 0))
	}
	refused(t, ints, []byte{2, 128, 0})
	// A count is a number too.
	refused(t, ints, []byte{128, 0})
	refused(t, ints, []byte{130, 0, 0})
	refused(t, readings()[0], []byte{0, 128, 0, 0})
}

func TestNumbersOfMoreBits(t *testing.T) {
	ints := readings()[2]
	nine := []byte{2, 255, 255, 255, 255, 255, 255, 255, 255, 255}
	low := []byte{2, 128, 128, 128, 128, 128, 128, 128, 128, 128}
	for last := 2; last < 256; last++ {
		for _, b := range [][]byte{nine, low} {
			b = append(append([]byte(nil), b...), byte(last))
			refused(t, ints, b)
			refused(t, ints, append(b, 1))
			refused(t, ints, append(b, 0))
		}
	}
	long := make([]byte, 1000)
	for i := range long {
		long[i] = 255
	}
	refused(t, ints, long)
	l, e := bytes.ReadInts(append(low, 1))
	same(t, "error of 2^63", e, api.OK)
	same(t, "2^63", l, []int{1 << 62})
}

func TestNumbersThatStopShort(t *testing.T) {
	for _, n := range ends() {
		b := append([]byte{2}, digits(int64(n))...)
		for end := range len(b) {
			for _, c := range readings() {
				refused(t, c, b[:end])
				refused(t, c, append([]byte(nil), b[:end]...))
			}
		}
	}
}

func TestCountsBelowNone(t *testing.T) {
	for _, n := range []int64{-1, -2, -64, -65, math.MinInt64} {
		for _, c := range readings() {
			refused(t, c, append(digits(n), make([]byte, 100)...))
		}
		// Of a text, and of a list inside.
		refused(t, readings()[1], append(append([]byte{2, 0}, digits(n)...), make([]byte, 17)...))
		refused(t, readings()[1], append(append([]byte{2}, make([]byte, 18)...), digits(n)...))
		refused(t, readings()[0], append(append([]byte{0}, digits(n)...), make([]byte, 2)...))
	}
}

func TestCountsAboveWhatIsLeft(t *testing.T) {
	ints := readings()[2]
	for n := range 70 {
		b := append(digits(int64(n)), make([]byte, n)...)
		l, e := bytes.ReadInts(b)
		same(t, "error", e, api.OK)
		same(t, "as many", len(l), n)
		for _, more := range []int64{1, 2, 1000, 1 << 40, math.MaxInt64 - 70} {
			refused(t, ints, append(digits(int64(n)+more), make([]byte, n)...))
		}
	}
	for _, n := range []int64{1, 2, 3, 1 << 40, math.MaxInt64} {
		// A text's count, then those of the lists of a book.
		refused(t, readings()[1], append(append([]byte{2}, make([]byte, 7)...), digits(n+17)...))
		refused(t, readings()[0], digits(n))
		refused(t, readings()[0], append([]byte{0}, digits(n)...))
		refused(t, readings()[0], append([]byte{0, 0}, digits(n)...))
	}
	// As many bytes as items, but too few for what an item is.
	refused(t, readings()[0], []byte{2, 0})
	refused(t, readings()[1], append([]byte{38}, make([]byte, 19)...))
}

func TestBytesLeftAtTheEnd(t *testing.T) {
	r := rand.New(rand.NewSource(2))
	for _, c := range readings() {
		for range 200 {
			b := c.made(r)
			for _, more := range [][]byte{{0}, {1}, {128}, {255}, {0, 0, 0}, b} {
				refused(t, c, append(append([]byte(nil), b...), more...))
			}
		}
	}
}

func TestBytesThatStopShort(t *testing.T) {
	r := rand.New(rand.NewSource(3))
	for _, c := range readings() {
		for range 50 {
			b := c.made(r)
			for end := range len(b) {
				refused(t, c, b[:end])
			}
		}
	}
}

// P2.3

func TestReadsOfWhatWasWritten(t *testing.T) {
	for _, x := range books() {
		got, e := bytes.ReadBook(bytes.Book(x))
		same(t, "error", e, api.OK)
		same(t, "ReadBook", got, x)
	}
	for _, l := range groups() {
		got, e := bytes.ReadOps(bytes.Ops(l))
		same(t, "error", e, api.OK)
		same(t, "ReadOps", got, l)
	}
	for _, l := range [][]int{nil, {0}, ends(), make([]int, 1000)} {
		got, e := bytes.ReadInts(bytes.Ints(l))
		same(t, "error", e, api.OK)
		same(t, "ReadInts", got, l)
	}
}

func TestReadsOfChance(t *testing.T) {
	r := rand.New(rand.NewSource(4))
	for range 500 {
		var book api.Book
		var ops []api.Op
		var ints []int
		fill(r, reflect.ValueOf(&book).Elem())
		fill(r, reflect.ValueOf(&ops).Elem())
		fill(r, reflect.ValueOf(&ints).Elem())
		same(t, "Book", bytes.Book(book), stand(book))
		same(t, "Ops", bytes.Ops(ops), stand(ops))
		same(t, "Ints", bytes.Ints(ints), stand(ints))
		gotBook, e := bytes.ReadBook(stand(book))
		same(t, "ReadBook", e, api.OK)
		same(t, "ReadBook", gotBook, book)
		gotOps, e := bytes.ReadOps(stand(ops))
		same(t, "ReadOps", e, api.OK)
		same(t, "ReadOps", gotOps, ops)
		gotInts, e := bytes.ReadInts(stand(ints))
		same(t, "ReadInts", e, api.OK)
		same(t, "ReadInts", gotInts, ints)
	}
}

// takes: the Read refuses the bytes, or they are those of what it takes.
func takes(t *testing.T, c reading, b []byte) bool {
	t.Helper()
	x, e := c.read(b)
	if e != api.OK {
		refused(t, c, b)
		return false
	}
	if string(c.back(x)) != string(b) || string(stand(x)) != string(b) {
		t.Fatalf("%s(% x): %v, which is written as % x", c.name, b, x, c.back(x))
	}
	return true
}

func TestWhatIsTakenIsWrittenTheSame(t *testing.T) {
	few := []byte{0, 1, 2, 3, 4, 6, 8, 127, 128, 129, 130, 255}
	var all func(b []byte, more int)
	all = func(b []byte, more int) {
		for _, c := range readings() {
			takes(t, c, b)
		}
		if more == 0 {
			return
		}
		for _, x := range few {
			all(append(b, x), more-1)
		}
	}
	all(make([]byte, 0, 8), 4)
	for i := range 1 << 16 {
		for _, c := range readings() {
			takes(t, c, []byte{byte(i), byte(i >> 8)})
		}
	}
}

func TestBytesOfChance(t *testing.T) {
	r := rand.New(rand.NewSource(5))
	for _, c := range readings() {
		took := 0
		for range 20000 {
			b := c.made(r)
			for range 1 + r.Intn(3) {
				if len(b) > 0 {
					b[r.Intn(len(b))] ^= 1 << r.Intn(8)
				}
			}
			if takes(t, c, b) {
				took++
			}
		}
		if took == 0 || took == 20000 {
			t.Fatalf("%s: %d of 20000 were taken", c.name, took)
		}
	}
}

// What Reads take is all that is written, so a number has one way to stand: of 2 bytes each that is none ends in 0, or goes on.
func TestNumbersOfTwoBytes(t *testing.T) {
	for i := range 1 << 16 {
		low, high := byte(i), byte(i>>8)
		l, e := bytes.ReadInts([]byte{2, low, high})
		if low < 128 || high == 0 || high >= 128 {
			refused(t, readings()[2], []byte{2, low, high})
			continue
		}
		u := int(low-128) + 128*int(high)
		n := u / 2
		if u%2 == 1 {
			n = -n - 1
		}
		if e != api.OK || len(l) != 1 || l[0] != n {
			t.Fatalf("ReadInts(2 %d %d): %v %v, want %d", low, high, l, e, n)
		}
	}
}
