package journal_test

import (
	"encoding/binary"
	"hash/crc32"
	"math/rand"
	"testing"

	"octavo/api"
)

// P4.2

func TestScanOfNoBytes(t *testing.T) {
	for _, id := range ids() {
		unbound(t, "nil", nil, id)
		unbound(t, "no bytes", []byte{}, id)
	}
}

func TestScanOfAHeader(t *testing.T) {
	for _, id := range ids() {
		b := head(7, id)
		scans(t, "a header", b, id, nil, len(b))
		// What lies in the room behind the end is no group.
		whole := join(b, groupOf(1, changes()[1]))
		scans(t, "a header with a group in its room", whole[:len(b)], id, nil, len(b))
	}
}

func TestScan(t *testing.T) {
	for _, id := range ids() {
		for n := range len(changes()) + 1 {
			b := logOf(id, changes()[:n])
			scans(t, "a journal", b, id, changes()[:n], len(b))
		}
	}
}

// Numbers of groups have two bytes from 64 on, and three from 8192 on.
func TestScanOfManyGroups(t *testing.T) {
	for _, n := range []int{62, 63, 64, 65, 200, 8193, 9000} {
		b := logOf(5, many(n))
		scans(t, "many groups", b, 5, many(n), len(b))
	}
}

func TestScanOfLongGroups(t *testing.T) {
	l := [][]api.Op{long(t, 1, api.MaxFrame), {set(1)}, long(t, 3, api.MaxFrame-1), long(t, 4, api.MaxFrame)}
	b := logOf(5, l)
	scans(t, "groups of MaxFrame bytes", b, 5, l, len(b))
	// A frame that is a byte longer is none, though its sum is right.
	good := logOf(5, l[:1])
	scans(t, "a group of more", join(good, groupOf(2, long(t, 2, api.MaxFrame+1)), groupOf(3, l[1])), 5, l[:1], len(good))
}

func TestScanOfWrongBeginnings(t *testing.T) {
	group := groupOf(1, changes()[1])
	whole := logOf(5, changes())
	for what, b := range map[string][]byte{
		"a zero":                                {0},
		"zeros":                                 make([]byte, 100),
		"a text":                                []byte("this is no journal at all, it is a text"),
		"a container":                           []byte("OCTAVO1\n\x00\x00\x00\x00\x1c\xdf\x44\x21\x08\x00\x00\x00"),
		"a group alone":                         group,
		"a group, then a header":                join(group, head(7, 5)),
		"a byte ahead of a header":              join([]byte{0}, whole),
		"a journal without its first byte":      whole[1:],
		"an empty frame":                        join(framed(nil), whole),
		"a frame of a header":                   framed(head(7, 5)),
		"a header without its frame":            stand([]int{7, 5}),
		"no numbers":                            join(head(), group),
		"the mark alone":                        join(head(7), group),
		"the id alone":                          join(head(5), group),
		"three numbers":                         join(head(7, 5, 0), group),
		"the mark twice":                        join(head(7, 7, 5), group),
		"many numbers":                          join(head(7, 5, 7, 5, 7, 5), group),
		"another mark":                          join(head(6, 5), group),
		"a greater mark":                        join(head(8, 5), group),
		"a negative mark":                       join(head(-7, 5), group),
		"the id, then the mark":                 join(head(5, 7), group),
		"no mark":                               join(head(0, 5), group),
		"a header with a byte behind":           join(framed(join(stand([]int{7, 5}), []byte{0})), group),
		"a header with changes behind":          join(framed(join(stand([]int{7, 5}), stand(changes()[1]))), group),
		"a count that is longer than it needs":  join(framed([]byte{132, 0, 14, 10}), group),
		"a mark that is longer than it needs":   join(framed([]byte{4, 142, 0, 10}), group),
		"an id that is longer than it needs":    join(framed([]byte{4, 14, 138, 0}), group),
		"an id that is none of 64 bits":         join(framed([]byte{4, 14, 138, 128, 128, 128, 128, 128, 128, 128, 128, 2}), group),
		"a count of 3, and two numbers":         join(framed([]byte{6, 14, 10}), group),
		"a count of 1, and two numbers":         join(framed([]byte{2, 14, 10}), group),
		"a frame whose count is a great one":    {255, 255, 255, 255, 4, 14, 10},
		"a frame whose count is a byte less":    join([]byte{2}, head(7, 5)[1:], group),
		"a frame whose count is a byte more":    join([]byte{4}, head(7, 5)[1:], group),
		"a header with the sum of another one":  join(head(7, 5)[:7], head(7, 6)[7:], group),
		"a header with the content's sum alone": join(head(7, 5)[:7], binary.LittleEndian.AppendUint32(nil, crc32.ChecksumIEEE(stand([]int{7, 5}))), group),
	} {
		unbound(t, what, b, 5)
		unadded(t, what, b, changes()[1], api.ErrCorrupt)
	}
}

// wrongFrames: what may stand behind two groups and is not the third one.
func wrongFrames() map[string][]byte {
	l := changes()[2]
	third := groupOf(3, l)
	return map[string][]byte{
		"a byte":                                {0},
		"a part of a count":                     {1, 0, 0},
		"a great count":                         {255, 255, 255, 255, 1, 2, 3, 4},
		"zeros":                                 make([]byte, 40),
		"a text":                                []byte("a text that is no group of changes"),
		"an empty frame":                        framed(nil),
		"a frame of a zero":                     framed([]byte{0}),
		"a frame of the count of one":           framed([]byte{2}),
		"a frame of bytes that do not end":      framed([]byte{2, 255, 255, 255, 255, 255, 255, 255, 255, 255, 255, 255}),
		"a frame of a number that is too great": framed(join([]byte{2, 134, 128, 128, 128, 128, 128, 128, 128, 128, 2}, stand(l))),
		"the first number again":                groupOf(1, l),
		"the last number again":                 groupOf(2, l),
		"a number that is one too great":        groupOf(4, l),
		"a great number":                        groupOf(1<<40, l),
		"number 0":                              groupOf(0, l),
		"a negative number":                     groupOf(-3, l),
		"a number that is longer than it needs": framed(join([]byte{2, 134, 0}, stand(l))),
		"a count that is longer than it needs":  framed(join([]byte{130, 0, 6}, stand(l))),
		"a number without a count":              framed(join(stand(3), stand(l))),
		"no number":                             framed(join(stand([]int{}), stand(l))),
		"changes alone":                         framed(stand(l)),
		"two numbers":                           framed(join(stand([]int{3, 3}), stand(l))),
		"a number alone":                        head(3),
		"the header again":                      head(7, 5),
		"another header":                        head(7, 6),
		"numbers":                               head(3, 1, 2, 3),
		"a book":                                framed(stand(api.Book{Sheets: []api.Sheet{{Name: "Sheet"}}})),
		"a group of no changes":                 groupOf(3, nil),
		"a group with a byte behind":            framed(join(stand([]int{3}), stand(l), []byte{0})),
		"a group with bytes behind":             framed(join(stand([]int{3}), stand(l), stand(l))),
		"no changes, and a change behind":       framed(join(stand([]int{3}), stand([]api.Op{}), stand(l[0]))),
		"a group without its last byte":         framed(join(stand([]int{3}), stand(l)[:len(stand(l))-1])),
		"a change less than the count":          framed(join(stand([]int{3}), []byte{4}, stand(l[0]))),
		"a change more than the count":          framed(join(stand([]int{3}), []byte{2}, stand(l[0]), stand(l[0]))),
		"a negative count of changes":           framed(join(stand([]int{3}), []byte{1}, stand(l[0]))),
		"a group without its frame":             third[4 : len(third)-4],
		"a frame of a frame":                    framed(third),
		"a byte ahead of the group":             join([]byte{0}, third),
		"the group without its first byte":      third[1:],
		"the group without its sum":             third[:len(third)-4],
		"the group without its last byte":       third[:len(third)-1],
		"the group with another sum":            join(third[:len(third)-1], []byte{third[len(third)-1] + 1}),
		"another group's sum":                   join(third[:len(third)-4], groupOf(4, l)[len(third)-4:]),
	}
}

func TestScanOfWrongFrames(t *testing.T) {
	two := changes()[:2]
	good := logOf(5, two)
	third, fourth := groupOf(3, changes()[2]), groupOf(4, changes()[3])
	for what, frame := range wrongFrames() {
		scans(t, what, join(good, frame), 5, two, len(good))
		unadded(t, what, join(good, frame), changes()[1], api.ErrCorrupt)
		// What stands behind is not told, be it the right group.
		scans(t, what+", then the groups", join(good, frame, third, fourth), 5, two, len(good))
		unadded(t, what+", then the groups", join(good, frame, third, fourth), changes()[1], api.ErrCorrupt)
	}
}

func TestScanOfGroupsInAnotherOrder(t *testing.T) {
	l := many(6)
	h := head(7, 5)
	parts := [][]byte{}
	for i := range l {
		parts = append(parts, groupOf(i+1, l[i]))
	}
	size := func(n int) int { return len(h) + len(join(parts[:n]...)) }
	for i := range l {
		scans(t, "a group that is missing", join(h, join(parts[:i]...), join(parts[i+1:]...)), 5, l[:i], size(i))
		scans(t, "a group that is there twice", join(h, join(parts[:i+1]...), join(parts[i:]...)), 5, l[:i+1], size(i+1))
		if i > 0 {
			scans(t, "two in the wrong order", join(h, join(parts[:i-1]...), parts[i], parts[i-1], join(parts[i+1:]...)), 5, l[:i-1], size(i-1))
		}
	}
	scans(t, "all groups twice", join(h, join(parts...), join(parts...)), 5, l, size(6))
	scans(t, "two journals", join(h, join(parts...), h, join(parts...)), 5, l, size(6))
	scans(t, "groups from 0 on", join(h, groupOf(0, l[0]), join(parts...)), 5, nil, len(h))
}

func TestScanOfAllBitsTurned(t *testing.T) {
	l := changes()[:5]
	b := logOf(5, l)
	ends := []int{}
	for n := range len(l) + 1 {
		ends = append(ends, len(logOf(5, l[:n])))
	}
	for bit := range 8 * len(b) {
		b[bit/8] ^= 1 << (bit % 8)
		if bit/8 < ends[0] {
			unbound(t, "a journal with a bit of its header turned", b, 5)
		} else {
			n := 0
			for ends[n+1] <= bit/8 {
				n++
			}
			scans(t, "a journal with a bit turned", b, 5, l[:n], ends[n])
		}
		unadded(t, "a journal with a bit turned", b, changes()[1], api.ErrCorrupt)
		b[bit/8] ^= 1 << (bit % 8)
	}
	scans(t, "a journal whose bits were turned back", b, 5, l, len(b))
}

// P4.4

func TestScanOfTornJournals(t *testing.T) {
	l := changes()
	whole := logOf(5, l)
	n, good := -1, 0
	for end := range len(whole) + 1 {
		if n < len(l) && end == len(logOf(5, l[:n+1])) {
			n, good = n+1, end
		}
		for _, b := range [][]byte{whole[:end], whole[:end:end], join(whole[:end])} {
			switch {
			case n < 0:
				unbound(t, "a part of a header", b, 5)
				unadded(t, "a part of a header", b, l[0], api.ErrCorrupt)
			case end == good:
				scans(t, "a journal that is whole", b, 5, l[:n], good)
				added(t, "a journal that is whole", b, l[2], groupOf(n+1, l[2]))
			default:
				scans(t, "a torn journal", b, 5, l[:n], good)
				unadded(t, "a torn journal", b, l[0], api.ErrCorrupt)
			}
		}
	}
	if n != len(l) {
		t.Fatalf("%d groups were whole, want %d", n, len(l))
	}
}

// Bytes behind a torn group, as a file may have them, do not make more of it.
func TestScanOfTornJournalsWithBytesBehind(t *testing.T) {
	l := changes()[:3]
	whole := logOf(5, l)
	good := len(logOf(5, l[:2]))
	r := rand.New(rand.NewSource(1))
	for end := good + 1; end < len(whole); end++ {
		scans(t, "zeros behind", join(whole[:end], make([]byte, len(whole))), 5, l[:2], good)
		scans(t, "the group behind", join(whole[:end], groupOf(3, l[2])), 5, l[:2], good)
		other := make([]byte, 50)
		r.Read(other)
		scans(t, "other bytes behind", join(whole[:end], other), 5, l[:2], good)
	}
}

// P4.5

func TestScanForOtherIds(t *testing.T) {
	for _, own := range ids() {
		for n := range 3 {
			b := logOf(own, changes()[:n])
			for _, id := range ids() {
				if id == own {
					scans(t, "a journal", b, id, changes()[:n], len(b))
				} else {
					unbound(t, "another one's journal", b, id)
				}
			}
		}
	}
	for id := -300; id < 300; id++ {
		if id != 5 {
			unbound(t, "the journal of 5", logOf(5, changes()), id)
		}
	}
}
