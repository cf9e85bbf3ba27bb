package message_test

import (
	"bytes"
	"encoding/binary"
	"slices"
	"testing"

	"dockyard/api"
	"dockyard/message"
)

// samples answers right messages, more than one of each kind, none of them long.
func samples() []api.Message {
	l := eachKind()
	for _, m := range eachKind() {
		m.Term, m.Good, m.Entries = most, false, nil
		l = append(l, m)
	}
	return append(l,
		sending(0, entries(1, api.MaxEntries)...), sending(most-2, entries(most-1, 2)...), sending(4, api.Entry{Index: 5, Term: 9, Kind: api.EntryConfig, Data: make([]byte, 260)}),
		piece(0, 0, 0), piece(7, 0, 7), piece(api.MaxSnap-1, 1, api.MaxSnap), piece(3, 300, 303), about([]int{0, 1, 2, 3, 4, 5, 6, 7}, nil), about([]int{5}, []int{0, 7}),
	)
}

// P16.2, P16.3: bytes that are cut anywhere, in the frame and within it.
func TestCut(t *testing.T) {
	none(t, "no bytes", nil)
	none(t, "no bytes", []byte{})
	for _, m := range samples() {
		b, body := encoded(t, m), layout(m)
		for n := range b {
			none(t, "a frame cut off", b[:n])
			none(t, "a frame without its front", b[n+1:])
		}
		for n := range body {
			noBody(t, "a body cut off", body[:n])
		}
	}
}

// P16.2, P16.3: a byte more, in front, behind, and within the frame.
func TestByteMore(t *testing.T) {
	for _, m := range samples() {
		b, body := encoded(t, m), layout(m)
		for n := range 256 {
			one := []byte{byte(n)}
			none(t, "a byte behind the frame", slices.Concat(b, one))
			none(t, "a byte ahead of the frame", slices.Concat(one, b))
			noBody(t, "a byte at the end of the body", body, one)
		}
		noBody(t, "a body twice", body, body)
		none(t, "many bytes behind the frame", slices.Concat(b, make([]byte, 1000)))
	}
}

// P16.3: any one bit inverted.
func TestBits(t *testing.T) {
	for _, m := range samples() {
		b := encoded(t, m)
		for n := range b {
			for bit := range 8 {
				b[n] ^= 1 << bit
				none(t, "a bit inverted", b)
				b[n] ^= 1 << bit
			}
		}
		if got, e := message.Decode(b); e != api.OK || !same(got, m) {
			t.Errorf("with all bits as they were, Decode answers %d", e)
		}
	}
}

// P16.2: a Good that is neither 0 nor 1.
func TestGood(t *testing.T) {
	for _, m := range []api.Message{prevoted(), voted(), appended()} {
		b := layout(m)
		for n := range 256 {
			b[11] = byte(n)
			m.Good = n == 1
			if n <= 1 {
				is(t, "a Good", m, b)
			} else {
				noBody(t, "a Good that is none", b)
			}
		}
	}
}

// P16.2: frames that are none, though what is in them is right.
func TestFrames(t *testing.T) {
	for _, m := range eachKind() {
		body := layout(m)
		b := framed(body)
		for _, change := range []func(b []byte){
			func(b []byte) { binary.BigEndian.PutUint32(b, uint32(len(body)+1)) },
			func(b []byte) { clear(b[4:8]) },
			func(b []byte) { clear(b[len(b)-4:]) },
			func(b []byte) { slices.Reverse(b[len(b)-4:]) },
			func(b []byte) { slices.Reverse(b[:4]) },
			func(b []byte) { b[8], b[9] = b[9]+1, b[8] },
		} {
			other := slices.Clone(b)
			change(other)
			none(t, "a frame that is none", other)
		}
		// The length has a right sum, but is not that of the body.
		for _, size := range []int{0, 1, len(body) - 1, len(body) + 1, len(body) + 4, api.MaxFrame, api.MaxFrame + 1, 1<<32 - 1} {
			front := framed(make([]byte, 0))[:4]
			binary.BigEndian.PutUint32(front, uint32(size))
			front = append(front, framed(front)[8+4:]...)
			none(t, "a frame of another length", slices.Concat(front, body, b[len(b)-4:]))
		}
	}
	noBody(t, "a frame of zeros", make([]byte, 100))
	for n := range 256 {
		noBody(t, "a frame of the same bytes", bytes.Repeat([]byte{byte(n)}, 400))
		none(t, "the same bytes", bytes.Repeat([]byte{byte(n)}, 400))
	}
}

// P16.2: the fields of one kind behind the head of another one, where they have not the same.
func TestFieldsOfAnother(t *testing.T) {
	for _, m := range eachKind() {
		for _, other := range eachKind() {
			b := slices.Concat(head(m), layout(other)[11:])
			if slices.Equal(ownFields(m.Kind), ownFields(other.Kind)) {
				got, e := message.Decode(framed(b))
				if e != api.OK || got.Kind != m.Kind || got.Index != other.Index || got.LogTerm != other.LogTerm || got.Good != other.Good {
					t.Errorf("Decode answers %+v, %d", got, e)
				}
			} else if len(ownFields(m.Kind)) != 2 || len(ownFields(other.Kind)) != 2 {
				noBody(t, "the fields of another kind", b)
			}
		}
		noBody(t, "no fields", head(m))
	}
}

// P16.2: lists of entries that are none, in frames that are right.
func TestBadEntries(t *testing.T) {
	m := sending(4)
	front := layout(m)
	front = front[:len(front)-1]
	first := entryLayout(api.Entry{Index: 5, Term: 9, Kind: api.EntryCommand, Data: []byte("hull")})
	is(t, "the entry itself", sending(4, api.Entry{Index: 5, Term: 9, Kind: api.EntryCommand, Data: []byte("hull")}), slices.Concat(front, []byte{1}, text(first)))

	one := func(what string, b []byte) {
		t.Helper()
		noBody(t, what, front, []byte{1}, text(b))
		noBody(t, what+", the second one", front, []byte{2}, text(first), text(b))
		noBody(t, what+", ahead of another one", front, []byte{2}, text(b), text(entryLayout(api.Entry{Index: 6, Term: 9})))
	}
	for n := range first {
		one("an entry cut off", first[:n])
	}
	one("an entry and a byte", slices.Concat(first, []byte{0}))
	one("an entry twice", slices.Concat(first, first))
	one("an entry with a longer length", slices.Concat(first[:17], []byte{253, 0, 4}, first[18:]))
	for kind := 3; kind < 256; kind++ {
		one("an entry of no kind", slices.Concat(first[:16], []byte{byte(kind)}, first[17:]))
	}
	one("none, with data", slices.Concat(first[:16], []byte{0}, first[17:]))
	one("no index", slices.Concat(longs(0), first[8:]))
	one("no term", slices.Concat(first[:8], longs(0), first[16:]))

	noBody(t, "no list", front)
	noBody(t, "no entry of one", front, []byte{1})
	noBody(t, "no second entry of two", front, []byte{2}, text(first))
	noBody(t, "an entry of none", front, []byte{0}, text(first))
	noBody(t, "a second entry of one", front, []byte{1}, text(first), text(entryLayout(api.Entry{Index: 6, Term: 9})))
	noBody(t, "an entry that is no Text", front, []byte{1}, first)
	noBody(t, "an entry of a longer length", front, []byte{1, 253, 0, byte(len(first))}, first)
	noBody(t, "an entry of a length of 5 bytes", front, []byte{1, 254, 0, 0, 0, byte(len(first))}, first)
	noBody(t, "a number of 3 bytes", front, []byte{253, 0, 1}, text(first))
	noBody(t, "no entries, in 3 bytes", front, []byte{253, 0, 0})
	noBody(t, "as many entries as can be", front, bytes.Repeat([]byte{255}, 9))
	noBody(t, "an entry as long as can be", front, []byte{1}, bytes.Repeat([]byte{255}, 9))
	for n := 2; n < 256; n++ {
		noBody(t, "more entries than there are", front, []byte{byte(n)}, text(first))
	}
}

// P16.2: configurations that are none, in frames that are right.
func TestBadConfig(t *testing.T) {
	m := chunk()
	b := layout(m)
	front, behind := b[:27], b[33:]
	is(t, "the configuration itself", m, slices.Concat(front, []byte{5, 2, 0, 3, 1, 6}, behind))
	for _, s := range []string{
		"", "00", "00 00", "00 01 06", "01", "01 00", "02 00 03", "02 00 03 01", "02 00 03 01 06 00", "02 00 03 02 06", "02 00 03 00 06",
		"02 03 00 01 06", "02 00 00 01 06", "02 00 03 01 03", "02 00 03 01 08", "02 00 08 01 06", "02 00 ff 01 06", "01 00 02 06 05", "01 00 02 06 06",
		"fd 00 02 00 03 01 06", "02 00 03 fd 00 01 06", "09 00 01 02 03 04 05 06 07 08 00", "ff ff ff ff ff ff ff ff ff",
	} {
		noBody(t, "a configuration that is none: "+s, front, text(bytesOf(t, s)), behind)
	}
	right := bytesOf(t, "02 00 03 01 06")
	noBody(t, "a configuration that is no Text", front, right, behind)
	noBody(t, "a configuration twice", front, text(right), text(right), behind)
	noBody(t, "a configuration of a longer length", front, []byte{253, 0, 5}, right, behind)
	noBody(t, "a configuration as long as can be", front, bytes.Repeat([]byte{255}, 9), right, behind)
	noBody(t, "nothing behind the configuration", front, text(right))
}

// P16.2: pieces whose data are none, in frames that are right.
func TestBadData(t *testing.T) {
	m := chunk()
	b := layout(m)
	front := b[:49]
	is(t, "the data themselves", m, slices.Concat(front, []byte{4}, []byte("mast")))
	noBody(t, "no data", front)
	noBody(t, "data of no length", front, []byte("mast"))
	noBody(t, "data of a longer length", front, []byte{253, 0, 4}, []byte("mast"))
	noBody(t, "data of a length of 9 bytes", front, []byte{255, 0, 0, 0, 0, 0, 0, 0, 4}, []byte("mast"))
	noBody(t, "data as long as can be", front, bytes.Repeat([]byte{255}, 9), []byte("mast"))
	for n := range 256 {
		if n != 4 {
			noBody(t, "data of another length", front, []byte{byte(n)}, []byte("mast"))
		}
	}
	noBody(t, "data of the greatest length that is not there", front, []byte{253, 16, 0}, make([]byte, api.MaxChunk-1))
}
