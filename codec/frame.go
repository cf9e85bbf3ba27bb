package codec

import (
	"bytes"

	"dockyard/api"
)

const (
	polynomial = 0xedb88320
	sumSize    = 4
	headSize   = 4 + sumSize
)

// Sum answers the checksum CRC-32 of b.
func Sum(b []byte) uint32 {
	register := ^uint32(0)
	for _, x := range b {
		register = shiftedOut(register ^ uint32(x))
	}
	return ^register
}

// shiftedOut shifts a byte out of the register.
func shiftedOut(register uint32) uint32 {
	for range 8 {
		low := register & 1
		register >>= 1
		if low == 1 {
			register ^= polynomial
		}
	}
	return register
}

// Frame answers b between its length and its checksum; the length has a checksum of its own, so that it can be trusted before the contents are there.
func Frame(b []byte) ([]byte, api.Errno) {
	if len(b) > api.MaxFrame {
		return nil, api.ErrCodecLong
	}
	w := New()
	w.Word(uint32(len(b)))
	w.Word(Sum(w.Bytes()))
	w.Raw(b)
	w.Word(Sum(b))
	return w.Bytes(), api.OK
}

// Unframe answers the contents of the frame at the front of b, and the length of the frame.
func Unframe(b []byte) ([]byte, int, api.Errno) {
	if len(b) < headSize {
		return nil, 0, api.ErrCodecShort
	}
	length, head, body := b[:headSize-sumSize], b[:headSize], b[headSize:]
	if !sumFollows(length, head) {
		return nil, 0, api.ErrCodecSum
	}
	n := number(length)
	if n > api.MaxFrame {
		return nil, 0, api.ErrCodecLong
	}
	size := int(n)
	if len(body) < size+sumSize {
		return nil, 0, api.ErrCodecShort
	}
	if !sumFollows(body[:size], body) {
		return nil, 0, api.ErrCodecSum
	}
	return bytes.Clone(body[:size]), headSize + size + sumSize, api.OK
}

// sumFollows answers whether the Word behind front, with which b begins, is its checksum.
func sumFollows(front, b []byte) bool {
	return number(b[len(front):len(front)+sumSize]) == uint64(Sum(front))
}
