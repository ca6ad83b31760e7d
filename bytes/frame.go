package bytes

import "octavo/api"

// A frame has a word of wordSize bytes at either end: the content's count ahead, the sum behind.
const wordSize = 4

// sums is what the low half of a byte puts into a CRC-32's register. (A table for whole bytes would be too long to stand here.)
var sums = [16]uint32{
	0x00000000, 0x1db71064, 0x3b6e20c8, 0x26d930ac,
	0x76dc4190, 0x6b6b51f4, 0x4db26158, 0x5005713c,
	0xedb88320, 0xf00f9344, 0xd6d6a3e8, 0xcb61b38c,
	0x9b64c2b0, 0x86d3d2d4, 0xa00ae278, 0xbdbdf21c,
}

// Sum: CRC-32, of the reflected polynomial 0xedb88320.
func Sum(b []byte) uint32 {
	r := ^uint32(0)
	for _, x := range b {
		r ^= uint32(x)
		r = r>>4 ^ sums[r&15]
		r = r>>4 ^ sums[r&15]
	}
	return ^r
}

// Frame: bytes with their count ahead, and a sum behind; nothing, if there are more than MaxFrame.
func Frame(b []byte) []byte {
	if len(b) > api.MaxFrame {
		return nil
	}
	out := make([]byte, 0, frameSize(len(b)))
	out = putWord(out, uint32(len(b)))
	out = append(out, b...)
	return putWord(out, Sum(out))
}

// Unframe: the content of the frame that bytes begin with, and the frame's length.
func Unframe(b []byte) ([]byte, int, api.Errno) {
	if len(b) < wordSize {
		return nil, 0, api.ErrAgain
	}
	count := wordAt(b, 0)
	if count > api.MaxFrame {
		return nil, 0, api.ErrRange
	}
	size := frameSize(int(count))
	if len(b) < size {
		return nil, 0, api.ErrAgain
	}
	end := size - wordSize
	if wordAt(b, end) != Sum(b[:end]) {
		return nil, 0, api.ErrCorrupt
	}
	return append([]byte(nil), b[wordSize:end]...), size, api.OK
}

// frameSize: of a frame whose content has so many bytes.
func frameSize(count int) int { return wordSize + count + wordSize }

// putWord: the lowest byte first.
func putWord(b []byte, x uint32) []byte {
	return append(b, byte(x), byte(x>>8), byte(x>>16), byte(x>>24))
}

// wordAt: what putWord wrote there.
func wordAt(b []byte, at int) uint32 {
	return uint32(b[at]) | uint32(b[at+1])<<8 | uint32(b[at+2])<<16 | uint32(b[at+3])<<24
}
