package codec

import (
	"bytes"

	"dockyard/api"
)

// Reader goes through bytes, and remembers the first error.
type Reader struct {
	rest []byte
	err  api.Errno
}

// Read answers a reader at the front of a copy of b.
func Read(b []byte) *Reader {
	return &Reader{rest: bytes.Clone(b)}
}

// Byte reads one byte.
func (r *Reader) Byte() byte {
	return byte(number(r.take(1)))
}

// Word reads a number of 4 bytes.
func (r *Reader) Word() uint32 {
	return uint32(number(r.take(4)))
}

// Long reads a number of 8 bytes.
func (r *Reader) Long() uint64 {
	return number(r.take(8))
}

// Var reads a number that is at most most.
func (r *Reader) Var(most uint64) uint64 {
	n, size, e := frontVar(r.rest, most)
	r.Fail(e)
	if r.err != api.OK {
		return 0
	}
	r.take(size)
	return n
}

// Raw reads n bytes.
func (r *Reader) Raw(n int) []byte {
	if n < 0 {
		r.Fail(api.ErrCodecLong)
	}
	return bytes.Clone(r.take(n))
}

// Text reads a length that is at most most, and as many bytes.
func (r *Reader) Text(most int) []byte {
	n, size, e := frontCount(r.rest, most)
	if e == api.OK && n > len(r.rest)-size {
		e = api.ErrCodecShort
	}
	r.Fail(e)
	r.take(size)
	return bytes.Clone(r.take(n))
}

// Fail makes the reader fail with e, unless that is OK; an error from before stays.
func (r *Reader) Fail(e api.Errno) {
	if r.err == api.OK {
		r.err = e
	}
}

// Err answers the error with which the reader failed.
func (r *Reader) Err() api.Errno {
	return r.err
}

// Left answers how many bytes were not consumed.
func (r *Reader) Left() int {
	return len(r.rest)
}

// End answers what is amiss if nothing more is read.
func (r *Reader) End() api.Errno {
	if r.err == api.OK && len(r.rest) > 0 {
		return api.ErrCodecMore
	}
	return r.err
}

// take consumes n bytes and answers them, or none if the reader has failed. They are the reader's own: what a caller gets is a copy.
func (r *Reader) take(n int) []byte {
	if len(r.rest) < n {
		r.Fail(api.ErrCodecShort)
	}
	if r.err != api.OK {
		return nil
	}
	b := r.rest[:n]
	r.rest = r.rest[n:]
	return b
}

// count reads a number of things that is at most most.
func (r *Reader) count(most int) int {
	_, _, e := frontCount(r.rest, most)
	r.Fail(e)
	return int(r.Var(uint64(most)))
}

// frontVar answers the Var at the front of b, and its size. It consumes nothing, since a Text whose bytes are missing must not consume its length either.
func frontVar(b []byte, most uint64) (uint64, int, api.Errno) {
	if len(b) == 0 {
		return 0, 0, api.ErrCodecShort
	}
	first := b[0]
	size := 1 + following(first)
	if len(b) < size {
		return 0, 0, api.ErrCodecShort
	}
	n := uint64(first)
	if size > 1 {
		n = number(b[1:size])
	}
	if firstOfVar(n) != first {
		return 0, 0, api.ErrCodecForm
	}
	if n > most {
		return 0, 0, api.ErrCodecLong
	}
	return n, size, api.OK
}

// frontCount is frontVar for numbers of things. A negative most allows none, not even 0, but what is amiss with the Var itself is told first.
func frontCount(b []byte, most int) (int, int, api.Errno) {
	n, size, e := frontVar(b, uint64(max(most, 0)))
	if e == api.OK && most < 0 {
		return 0, 0, api.ErrCodecLong
	}
	return int(n), size, e
}
