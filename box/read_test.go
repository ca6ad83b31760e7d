package box_test

import (
	"hash/crc32"
	"math/rand"
	"testing"

	"octavo/api"
	"octavo/box"
)

// some: an ordinary container's chunks.
func some() []box.Chunk {
	return []box.Chunk{{Tag: "BOOK", Data: []byte("xyz")}, {Tag: "NONE"}, {Tag: "MORE", Data: much(20)}}
}

// P3.2

func TestReadOfBytesThatAreNone(t *testing.T) {
	refused(t, "nil", nil)
	refused(t, "no bytes", []byte{})
	for n := range 100 {
		refused(t, "zeros", make([]byte, n))
	}
	refused(t, "the mark alone", join())
	refused(t, "the mark twice", join(join()))
	refused(t, "a text", []byte("PK\x03\x04 something else, of some length"))
	refused(t, "a file's worth of zeros", make([]byte, api.MaxFile))
	r := rand.New(rand.NewSource(1))
	for n := range 300 {
		b := make([]byte, n)
		r.Read(b)
		refused(t, "any bytes", b)
		refused(t, "any bytes behind the mark", join(b))
	}
}

func TestReadOfAnotherMark(t *testing.T) {
	good := stand(some())
	for _, mark := range []string{"OCTAVO2\n", "OCTAVO1\r", "octavo1\n", "OCTAVO1 ", "\x00CTAVO1\n", "        "} {
		refused(t, "another mark", append([]byte(mark), good[8:]...))
	}
	refused(t, "no mark", good[8:])
	refused(t, "a shorter mark", append([]byte("OCTAVO1"), good[8:]...))
	refused(t, "a longer mark", append([]byte("OCTAVO1\n\n"), good[8:]...))
	refused(t, "a byte ahead of the mark", append([]byte{0}, good...))
}

func TestReadOfWrongCounts(t *testing.T) {
	all := data(some())
	for i := range some() {
		for _, by := range []uint32{1, 2, 1 << 8, 1 << 31, 1<<32 - 1} {
			d := entries(some())
			d[i].count += by
			refused(t, "a count that is too great", container(all, table(d)))
			d[i].count -= 2 * by
			refused(t, "another count that does not fit", container(all, table(d)))
		}
	}
	refused(t, "a byte too few", container(all[:len(all)-1], table(entries(some()))))
	refused(t, "a byte too many", container(append(all, 0), table(entries(some()))))
	refused(t, "data and no entries", container([]byte("xy"), nil))
	refused(t, "entries and no data", container(nil, table(entries(some()))))
	refused(t, "a byte that no entry counts ahead", container(append([]byte{0}, all...), table(entries(some()))))
}

// A chunk whose sum is right for a part of the data is none: all data must be some chunk's.
func TestReadOfDataThatNoEntryHas(t *testing.T) {
	d := []entry{{"BOOK", 2, crc32.ChecksumIEEE([]byte("xy"))}}
	reads(t, "all data", container([]byte("xy"), table(d)), []box.Chunk{{Tag: "BOOK", Data: []byte("xy")}})
	refused(t, "data left at the end", container([]byte("xyz"), table(d)))
	refused(t, "a container as data left", container(append([]byte("xy"), stand(nil)...), table(d)))
	d = append(d, entry{"MORE", 2, crc32.ChecksumIEEE([]byte("xy"))})
	refused(t, "data that two entries share", container([]byte("xy"), table(d)))
	refused(t, "data that two entries share in part", container([]byte("xyx"), table(d)))
}

// How a frame begins is known ahead, so that a sum can be right for what is no data any more.
func TestReadOfAChunkThatReachesIntoTheFrame(t *testing.T) {
	for n := range 5 {
		over := append([]byte("xy"), 12, 0, 0, 0)[:2+n]
		b := container([]byte("xy"), table([]entry{{"BOOK", uint32(len(over)), crc32.ChecksumIEEE(over)}}))
		if n == 0 {
			reads(t, "a chunk that ends at the frame", b, []box.Chunk{{Tag: "BOOK", Data: []byte("xy")}})
		} else {
			refused(t, "a chunk that reaches into the frame", b)
		}
	}
}

func TestReadOfWrongSums(t *testing.T) {
	for i := range some() {
		for _, sum := range []uint32{0, 1, 1<<32 - 1, 0x12345678} {
			d := entries(some())
			if d[i].sum == sum {
				continue
			}
			d[i].sum = sum
			refused(t, "another sum", container(data(some()), table(d)))
		}
		for bit := range 32 {
			d := entries(some())
			d[i].sum ^= 1 << bit
			refused(t, "a sum with a bit turned", container(data(some()), table(d)))
		}
	}
	d := entries(some())
	d[0].sum, d[2].sum = d[2].sum, d[0].sum
	refused(t, "sums that are swapped", container(data(some()), table(d)))
	d = entries(some())
	d[0], d[2] = d[2], d[0]
	refused(t, "entries that are swapped", container(data(some()), table(d)))
}

func TestReadOfWrongTags(t *testing.T) {
	for _, tag := range wrongTags() {
		if len(tag) != 4 {
			continue
		}
		for i := range some() {
			l := some()
			l[i].Tag = tag
			refused(t, "a tag that is not good", stand(l))
		}
	}
}

func TestReadOfATagTwice(t *testing.T) {
	for i := range 4 {
		for k := range i {
			l := many(4, 5)
			l[i].Tag = l[k].Tag
			refused(t, "a tag that is there twice", stand(l))
		}
	}
	refused(t, "a chunk twice", stand([]box.Chunk{{Tag: "BOOK"}, {Tag: "BOOK"}}))
}

func TestReadOfTooMuch(t *testing.T) {
	for _, n := range []int{33, 34, 64, 1000} {
		refused(t, "more than 32 chunks", stand(many(n, 2)))
		refused(t, "more than 32 chunks without data", stand(many(n, 0)))
	}
	refused(t, "as many chunks as a frame has room for", stand(many(api.MaxFrame/12, 0)))
	refused(t, "a directory that is no frame any more", stand(many(api.MaxFrame/12+1, 0)))
	for _, n := range []int{1, 2, 32} {
		for _, more := range []int{1, 2, api.MaxFrame} {
			refused(t, "more than MaxFrame bytes in all", stand(full(n, more)))
		}
	}
}

func TestReadOfPartsOfEntries(t *testing.T) {
	d := table(entries(some()))
	for n := range d {
		if n%12 != 0 {
			refused(t, "a directory that is cut", container(data(some()), d[:n]))
			refused(t, "a part of an entry", container(nil, d[:n%12]))
		}
	}
	for n := 1; n < 12; n++ {
		refused(t, "bytes behind the last entry", container(data(some()), append(d[:len(d):len(d)], make([]byte, n)...)))
		refused(t, "bytes and no entry", container(nil, make([]byte, n)))
	}
}

func TestReadOfWrongLastCounts(t *testing.T) {
	for what, l := range boxes() {
		good := stand(l)
		body := good[:len(good)-4]
		size := uint32(8 + 12*len(l))
		for _, last := range []uint32{0, 1, 3, 4, 7, 8, size - 1, size + 1, size - 8, size + 8, size - 12, size + 12, uint32(len(body)) - 8, uint32(len(body)) - 7, uint32(len(body)), uint32(len(good)), 1 << 31, 1<<32 - 1, -size} {
			if last != size {
				refused(t, what+", with another last count", word(body[:len(body):len(body)], last))
			}
		}
		refused(t, what+", without the last count", body)
	}
}

// The last count says where the frame begins: there may be nothing between the frame and it.
func TestReadOfBytesBehindTheFrame(t *testing.T) {
	frame := framed(table(entries(some())))
	for _, behind := range [][]byte{{0}, {0, 0, 0, 0}, frame, much(12)} {
		n := uint32(len(frame))
		between := join(data(some()), frame, behind)
		refused(t, "bytes behind the frame that the last count has", word(between[:len(between):len(between)], n+uint32(len(behind))))
		if string(behind) != string(frame) {
			refused(t, "bytes behind the frame that it has not", word(between[:len(between):len(between)], n))
		}
	}
}

func TestReadOfAWrongFrame(t *testing.T) {
	d := table(entries(some()))
	frame := framed(d)
	n := uint32(len(frame))
	noSum := word(append([]byte(nil), frame[:n-4]...), crc32.ChecksumIEEE(d))
	refused(t, "a frame with the directory's sum alone", join(data(some()), noSum, word(nil, n)))
	refused(t, "a directory without a frame", join(data(some()), d, word(nil, uint32(len(d)))))
	reads(t, "the right frame", join(data(some()), frame, word(nil, n)), some())
}

func TestFind(t *testing.T) {
	l := []box.Chunk{{Tag: "BOOK", Data: []byte("xy")}, {Tag: "NONE"}, {Tag: "BOOK", Data: []byte("second")}, {Tag: "no tag", Data: []byte("odd")}, {Tag: "", Data: []byte("none")}, {Tag: "LAST", Data: []byte{0}}}
	for _, c := range []struct{ tag, data string }{{"BOOK", "xy"}, {"NONE", ""}, {"no tag", "odd"}, {"", "none"}, {"LAST", "\x00"}} {
		b, ok := box.Find(l, c.tag)
		if !ok || string(b) != c.data {
			t.Errorf("Find(%q): %q %v, want %q", c.tag, b, ok, c.data)
		}
	}
	for _, tag := range []string{"ABCD", "BOO", "BOOKS", "book", "BOOK\x00", " ", "tag"} {
		if b, ok := box.Find(l, tag); ok || len(b) != 0 {
			t.Errorf("Find(%q): %q %v, want none", tag, b, ok)
		}
	}
	for _, none := range [][]box.Chunk{nil, {}} {
		if b, ok := box.Find(none, "BOOK"); ok || len(b) != 0 {
			t.Errorf("Find of no chunks: %q %v", b, ok)
		}
	}
}

func TestFindOfAll(t *testing.T) {
	for what, l := range boxes() {
		for _, c := range l {
			if b, ok := box.Find(l, c.Tag); !ok || string(b) != string(c.Data) {
				t.Fatalf("%s: Find(%q): %d bytes, %v", what, c.Tag, len(b), ok)
			}
		}
	}
}

func TestId(t *testing.T) {
	for _, c := range []struct {
		text string
		id   int
	}{{"", 0}, {"123456789", 0xcbf43926}, {"\x00", 0xd202ef8d}, {"\x00\x00\x00\x00", 0x2144df1c}, {"\xff\xff\xff\xff", 0xffffffff}} {
		if id := box.Id([]byte(c.text)); id != c.id {
			t.Errorf("Id(%q): %d, want %d", c.text, id, c.id)
		}
	}
	for what, l := range boxes() {
		b := stand(l)
		if id := box.Id(b); id != int(crc32.ChecksumIEEE(b)) {
			t.Errorf("Id of %s: %d", what, id)
		}
	}
	if id := box.Id(make([]byte, 2*api.MaxFile)); id != int(crc32.ChecksumIEEE(make([]byte, 2*api.MaxFile))) {
		t.Errorf("Id of many zeros: %d", id)
	}
}

// P3.3

func TestReadOfWrite(t *testing.T) {
	for what, l := range boxes() {
		b, e := box.Write(l)
		if e != api.OK {
			t.Fatalf("Write of %s: %v", what, e)
		}
		reads(t, what, b, l)
	}
}

func TestReadOfWriteOfAny(t *testing.T) {
	r := rand.New(rand.NewSource(2))
	for range 300 {
		l := make([]box.Chunk, r.Intn(33))
		for i, n := range r.Perm(1000)[:len(l)] {
			l[i] = box.Chunk{Tag: tag(n * 457), Data: make([]byte, r.Intn(40))}
			r.Read(l[i].Data)
		}
		written(t, "any chunks", l, stand(l))
		reads(t, "any chunks", stand(l), l)
	}
}

// Whatever Read takes of bytes that are near to a container is told again by Write.
func TestWriteOfRead(t *testing.T) {
	r := rand.New(rand.NewSource(3))
	takes := 0
	for range 20000 {
		d := entries(some())
		all := data(some())
		if r.Intn(2) == 0 {
			d[r.Intn(3)].count += uint32(r.Intn(3) - 1)
		}
		if r.Intn(4) == 0 {
			d[r.Intn(3)].tag = []string{"BOOK", "NEWT", "tags"}[r.Intn(3)]
		}
		b := container(all[r.Intn(2):], table(d[r.Intn(2):]))
		for range r.Intn(3) {
			b[r.Intn(len(b))] ^= byte(r.Intn(2))
		}
		l, e := box.Read(b)
		if e != api.OK {
			refused(t, "bytes that are none", b)
			continue
		}
		takes++
		written(t, "what Read took", l, b)
	}
	if takes == 0 {
		t.Fatal("Read took nothing at all")
	}
}

func TestReadOfBeginnings(t *testing.T) {
	for what, l := range boxes() {
		b := stand(l)
		for n := range b {
			// Of a long container its ends are enough.
			if n < 3000 || n > len(b)-500 {
				refused(t, "a beginning of "+what, b[:n])
				refused(t, "a beginning without room of "+what, b[:n:n])
			}
		}
	}
}

func TestReadOfBytesBehind(t *testing.T) {
	for what, l := range boxes() {
		b := stand(l)
		for _, behind := range [][]byte{{0}, {10}, {0, 0, 0, 0}, {8, 0, 0, 0}, b[len(b)-4:], b} {
			refused(t, what+", with bytes behind", append(b[:len(b):len(b)], behind...))
		}
	}
}

func TestReadOfTurnedBits(t *testing.T) {
	for what, l := range boxes() {
		b := stand(l)
		bits := 8 * (len(b) - 4)
		step := 1
		if bits > 20000 {
			step = bits/499 | 1
		}
		for bit := 0; bit < bits; bit += step {
			b[bit/8] ^= 1 << (bit % 8)
			refused(t, what+", with a bit turned", b)
			b[bit/8] ^= 1 << (bit % 8)
		}
		reads(t, what+", with all bits turned back", b, l)
	}
}
