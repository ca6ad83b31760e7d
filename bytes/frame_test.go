package bytes_test

import (
	"encoding/binary"
	"hash/crc32"
	"math/rand"
	"testing"

	"octavo/api"
	"octavo/bytes"
)

// P2.1

func TestSum(t *testing.T) {
	same(t, "Sum of the digits", bytes.Sum([]byte("123456789")), uint32(0xcbf43926))
	same(t, "Sum of nothing", bytes.Sum(nil), uint32(0))
	same(t, "Sum of one 0", bytes.Sum([]byte{0}), uint32(0xd202ef8d))
	for i := range 256 {
		b := []byte{byte(i)}
		same(t, "Sum of one byte", bytes.Sum(b), crc32.ChecksumIEEE(b))
	}
	r := rand.New(rand.NewSource(1))
	for n := range 300 {
		b := make([]byte, n)
		r.Read(b)
		same(t, "Sum", bytes.Sum(b), crc32.ChecksumIEEE(b))
	}
}

func TestFrame(t *testing.T) {
	same(t, "Frame of nothing", bytes.Frame(nil), []byte{0, 0, 0, 0, 0x1c, 0xdf, 0x44, 0x21})
	for _, n := range []int{0, 1, 2, 3, 255, 256, 257, 65535, 65536, api.MaxFrame - 1, api.MaxFrame} {
		content := much(n)
		b := bytes.Frame(content)
		if len(b) != n+8 {
			t.Fatalf("Frame of %d bytes: %d bytes, want %d", n, len(b), n+8)
		}
		same(t, "count", binary.LittleEndian.Uint32(b), uint32(n))
		same(t, "content", string(b[4:n+4]), string(content))
		same(t, "sum", binary.LittleEndian.Uint32(b[n+4:]), crc32.ChecksumIEEE(b[:n+4]))
	}
}

func TestFrameOfTooMuch(t *testing.T) {
	for _, n := range []int{api.MaxFrame + 1, api.MaxFrame + 2, 2 * api.MaxFrame, 1 << 24} {
		if b := bytes.Frame(make([]byte, n)); len(b) != 0 {
			t.Fatalf("Frame of %d bytes: %d bytes, want none", n, len(b))
		}
	}
}

func TestUnframeOfFewBytes(t *testing.T) {
	for n := range 4 {
		unframed(t, "a few 0", make([]byte, n), api.ErrAgain)
		unframed(t, "a few 255", []byte{255, 255, 255}[:n], api.ErrAgain)
	}
	unframed(t, "nil", nil, api.ErrAgain)
}

// counted: bytes that say so many are to come, and have n bytes behind.
func counted(count uint32, n int) []byte {
	return append(binary.LittleEndian.AppendUint32(nil, count), make([]byte, n)...)
}

func TestUnframeOfGreatCounts(t *testing.T) {
	for _, count := range []uint32{api.MaxFrame + 1, 1 << 18, 1 << 24, 1<<31 - 1, 1 << 31, 1<<32 - 8, 1<<32 - 1} {
		for _, n := range []int{0, 1, 4, api.MaxFrame + 16} {
			unframed(t, "a great count", counted(count, n), api.ErrRange)
		}
	}
	unframed(t, "the greatest count, and nothing behind", counted(api.MaxFrame, 0), api.ErrAgain)
	unframed(t, "the greatest count, a byte short", counted(api.MaxFrame, api.MaxFrame+3), api.ErrAgain)
	unframed(t, "the greatest count, and a sum that is none", counted(api.MaxFrame, api.MaxFrame+4), api.ErrCorrupt)
}

// A frame of too many bytes is refused for its count, though its sum is right.
func TestUnframeOfTooLongFrame(t *testing.T) {
	b := counted(api.MaxFrame+1, api.MaxFrame+1)
	unframed(t, "a frame that is too long", binary.LittleEndian.AppendUint32(b, crc32.ChecksumIEEE(b)), api.ErrRange)
}

func TestUnframeOfWrongSums(t *testing.T) {
	b := bytes.Frame([]byte("abc"))
	for i := 7; i < len(b); i++ {
		for bit := range 8 {
			b[i] ^= 1 << bit
			unframed(t, "a sum with a bit turned", b, api.ErrCorrupt)
			b[i] ^= 1 << bit
		}
	}
	unframed(t, "eight 0", make([]byte, 8), api.ErrCorrupt)
	// The sum of the content alone is none of a frame: the count is summed too.
	alone := binary.LittleEndian.AppendUint32(append([]byte(nil), b[:7]...), bytes.Sum([]byte("abc")))
	unframed(t, "a sum of the content alone", alone, api.ErrCorrupt)
}

// P2.4

func TestUnframeOfFrame(t *testing.T) {
	for _, n := range []int{0, 1, 2, 3, 4, 5, 127, 128, 255, 256, 65536, api.MaxFrame - 1, api.MaxFrame} {
		content := much(n)
		b := bytes.Frame(content)
		unframes(t, "a frame", b, content)
		for _, behind := range [][]byte{{0}, {255}, b, much(9), {0, 0, 0}} {
			unframes(t, "a frame with bytes behind", append(append([]byte(nil), b...), behind...), content)
		}
	}
}

func TestUnframeOfBeginnings(t *testing.T) {
	for _, n := range []int{0, 1, 5, 300} {
		b := bytes.Frame(much(n))
		for end := range len(b) {
			unframed(t, "a beginning", b[:end], api.ErrAgain)
			// What lies in the room behind the end is not looked at.
			unframed(t, "a beginning without room", append([]byte(nil), b[:end]...), api.ErrAgain)
		}
	}
	b := bytes.Frame(much(api.MaxFrame))
	for _, end := range []int{0, 3, 4, 5, 8, api.MaxFrame, len(b) - 4, len(b) - 1} {
		unframed(t, "a beginning of the longest", b[:end], api.ErrAgain)
	}
}

// turn: the bit of the frame's content is another one.
func turn(b []byte, bit int) { b[4+bit/8] ^= 1 << (bit % 8) }

func TestUnframeOfTurnedBits(t *testing.T) {
	for _, n := range []int{1, 2, 3, 17, 120} {
		b := bytes.Frame(much(n))
		for bit := range 8 * n {
			turn(b, bit)
			unframed(t, "a frame with one bit turned", b, api.ErrCorrupt)
			if bit+1 < 8*n {
				turn(b, bit+1)
				unframed(t, "a frame with two bits turned", b, api.ErrCorrupt)
				unframed(t, "such a frame with bytes behind", append(append([]byte(nil), b...), b...), api.ErrCorrupt)
				turn(b, bit+1)
			}
			turn(b, bit)
		}
		unframes(t, "a frame whose bits were turned back", b, much(n))
	}
	b := bytes.Frame(much(api.MaxFrame))
	for _, bit := range []int{0, 7, 8, 4 * api.MaxFrame, 8*api.MaxFrame - 2} {
		turn(b, bit)
		unframed(t, "the longest with one bit turned", b, api.ErrCorrupt)
		turn(b, bit+1)
		unframed(t, "the longest with two bits turned", b, api.ErrCorrupt)
		turn(b, bit)
		turn(b, bit+1)
	}
}

func TestFramesOneBehindTheOther(t *testing.T) {
	var all []byte
	for n := range 50 {
		all = append(all, bytes.Frame(much(n))...)
	}
	for n := range 50 {
		content, size, e := bytes.Unframe(all)
		if e != api.OK || string(content) != string(much(n)) {
			t.Fatalf("frame %d: % x %v", n, content, e)
		}
		all = all[size:]
	}
	unframed(t, "what is left", all, api.ErrAgain)
}
