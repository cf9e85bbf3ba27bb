package wal

import (
	"iter"
	"strconv"
	"strings"

	"dockyard/api"
	"dockyard/codec"
	"dockyard/entry"
)

const (
	prefix = "wal."
	digits = 16
)

// fileName answers the name of the segment with a number.
func fileName(number uint64) string {
	s := strconv.FormatUint(number, 16)
	return prefix + strings.Repeat("0", digits-len(s)) + s
}

// segmentNumber answers the number of the segment that has a file's name, and whether it is a segment.
func segmentNumber(name string) (uint64, bool) {
	number, err := strconv.ParseUint(strings.TrimPrefix(name, prefix), 16, 64)
	// The number has one name alone: other lengths, other digits and a missing prefix are told by it.
	return number, err == nil && number != 0 && fileName(number) == name
}

// framed answers an entry as it stands in a segment.
func framed(e api.Entry) ([]byte, api.Errno) {
	b, code := entry.Encode(e)
	if code != api.OK {
		return nil, code
	}
	return codec.Frame(b)
}

// unframed answers the entry at the front of b, the length of its frame, and whether there is one.
func unframed(b []byte) (api.Entry, int, bool) {
	inside, size, code := codec.Unframe(b)
	if code != api.OK {
		return api.Entry{}, 0, false
	}
	e, code := entry.Decode(inside)
	return e, size, code == api.OK
}

// records yields what the bytes of a segment hold; where something else than an entry stands, it yields false, and ends.
func records(b []byte) iter.Seq2[record, bool] {
	return func(yield func(record, bool) bool) {
		end := 0
		for end < len(b) {
			e, size, whole := unframed(b[end:])
			end += size
			if !yield(record{entry: e, end: end}, whole) || !whole {
				return
			}
		}
	}
}
