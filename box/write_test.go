package box_test

import (
	"strings"
	"testing"

	"octavo/api"
	"octavo/box"
)

// wrongTags: none of them is good.
func wrongTags() []string {
	l := []string{"", "A", "AB", "ABC", "ABCDE", "BOOKBOOK", "book", "Book", "BOOk", "ÄBC", "ABÄ", "A BC", "AB1C", "\x00\x00\x00\x00", "\xff\xff\xff\xff", "ABC\n", "ＡＢＣＤ", strings.Repeat("A", 1000)}
	for i := range 4 {
		for _, sign := range []string{"@", "[", "a", "z", "`", "{", "0", " ", "\xc1", "\x00"} {
			l = append(l, "AZMB"[:i]+sign+"AZMB"[i+1:])
		}
	}
	return l
}

// P3.1

func TestGood(t *testing.T) {
	for _, tag := range []string{"BOOK", "AAAA", "ZZZZ", "AZAZ", "ZAZA", "MNOP"} {
		if !box.Good(tag) {
			t.Errorf("Good(%q): false", tag)
		}
	}
	for _, tag := range wrongTags() {
		if box.Good(tag) {
			t.Errorf("Good(%q): true", tag)
		}
	}
}

func TestGoodSignBySign(t *testing.T) {
	for i := range 4 {
		for sign := range 256 {
			tag := []byte("ABCD")
			tag[i] = byte(sign)
			if want := sign >= 'A' && sign <= 'Z'; box.Good(string(tag)) != want {
				t.Errorf("Good(%q): %v", tag, !want)
			}
		}
	}
}

func TestWriteOfNothing(t *testing.T) {
	want := []byte("OCTAVO1\n\x00\x00\x00\x00\x1c\xdf\x44\x21\x08\x00\x00\x00")
	written(t, "nil", nil, want)
	written(t, "an empty list", []box.Chunk{}, want)
	refused(t, "19 bytes of these", want[:19])
}

func TestWriteByteByByte(t *testing.T) {
	written(t, "a chunk", []box.Chunk{{Tag: "BOOK", Data: []byte("123456789")}}, []byte(
		"OCTAVO1\n"+
			"123456789"+
			"\x0c\x00\x00\x00"+"BOOK"+"\x09\x00\x00\x00"+"\x26\x39\xf4\xcb"+"\x7b\x97\xcd\x2c"+
			"\x14\x00\x00\x00"))
}

func TestWrite(t *testing.T) {
	for what, l := range boxes() {
		written(t, what, l, stand(l))
	}
}

func TestWriteOfWrongTags(t *testing.T) {
	for _, tag := range wrongTags() {
		for at := range 4 {
			l := many(4, 2)
			l[at].Tag = tag
			unwritten(t, "a tag that is not good", l, api.ErrName)
		}
		unwritten(t, "a tag that is not good, alone", []box.Chunk{{Tag: tag}}, api.ErrName)
	}
}

func TestWriteOfATagTwice(t *testing.T) {
	for i := range 5 {
		for k := range i {
			l := many(5, 3)
			l[i].Tag = l[k].Tag
			unwritten(t, "a tag that is there twice", l, api.ErrExists)
		}
	}
	unwritten(t, "the same chunk twice", []box.Chunk{{Tag: "BOOK"}, {Tag: "BOOK"}}, api.ErrExists)
	unwritten(t, "a tag three times", []box.Chunk{{Tag: "BOOK"}, {Tag: "BOOK"}, {Tag: "BOOK"}}, api.ErrExists)
}

func TestWriteOfManyChunks(t *testing.T) {
	written(t, "31 chunks", many(31, 1), stand(many(31, 1)))
	written(t, "32 chunks", many(32, 1), stand(many(32, 1)))
	for _, n := range []int{33, 34, 64, 300, 20000} {
		unwritten(t, "more than 32 chunks", many(n, 1), api.ErrRange)
		unwritten(t, "more than 32 chunks without data", many(n, 0), api.ErrRange)
	}
}

func TestWriteOfMuchData(t *testing.T) {
	for _, n := range []int{1, 2, 3, 31, 32} {
		written(t, "MaxFrame bytes in all", full(n, 0), stand(full(n, 0)))
		for _, more := range []int{1, 2, api.MaxFrame, 1 << 24} {
			unwritten(t, "more than MaxFrame bytes in all", full(n, more), api.ErrRange)
		}
	}
	unwritten(t, "a byte more at the end", append(full(1, 0), box.Chunk{Tag: "ZZZZ", Data: []byte{1}}), api.ErrRange)
	unwritten(t, "a byte more at the beginning", append([]box.Chunk{{Tag: "ZZZZ", Data: []byte{1}}}, full(1, 0)...), api.ErrRange)
}

// R2: of several errors the one that is named first.

func TestWriteOfTwoErrors(t *testing.T) {
	bad := box.Chunk{Tag: "bad"}
	huge := box.Chunk{Tag: "HUGE", Data: much(api.MaxFrame + 1)}
	pair := []box.Chunk{{Tag: "PAIR"}, {Tag: "PAIR"}}
	join := func(parts ...[]box.Chunk) []box.Chunk {
		var l []box.Chunk
		for _, p := range parts {
			l = append(l, p...)
		}
		return l
	}
	unwritten(t, "a tag twice, then one that is not good", append(join(pair), bad), api.ErrName)
	unwritten(t, "one that is not good twice", []box.Chunk{bad, bad}, api.ErrName)
	unwritten(t, "too much data, then a tag that is not good", []box.Chunk{huge, bad}, api.ErrName)
	unwritten(t, "too much data in a chunk whose tag is not good", []box.Chunk{{Tag: "huge", Data: huge.Data}}, api.ErrName)
	unwritten(t, "too many chunks, the last tag not good", append(many(40, 0), bad), api.ErrName)
	unwritten(t, "too much data, then a tag twice", join([]box.Chunk{huge}, pair), api.ErrExists)
	unwritten(t, "too much data twice", []box.Chunk{huge, huge}, api.ErrExists)
	unwritten(t, "too many chunks, the last tags twice", join(many(40, 0), pair), api.ErrExists)
	unwritten(t, "one chunk too many, a tag twice", append(many(32, 0), box.Chunk{Tag: tag(0)}), api.ErrExists)
	unwritten(t, "too many chunks of too much data", many(33, api.MaxFrame), api.ErrRange)
	unwritten(t, "all that is wrong", join(many(40, api.MaxFrame), pair, []box.Chunk{huge, bad}), api.ErrName)
}
