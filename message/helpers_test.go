package message_test

import (
	"bytes"
	"encoding/binary"
	"encoding/hex"
	"hash/crc32"
	"math"
	"reflect"
	"slices"
	"strings"
	"testing"

	"dockyard/api"
	"dockyard/message"
)

const most = math.MaxUint64

// ownFields answers the fields of a kind as the document lists them, behind those that all kinds have.
func ownFields(kind int) []string {
	return strings.Fields([]string{
		api.MsgPrevote:  "Index LogTerm",
		api.MsgPrevoted: "Good",
		api.MsgVote:     "Index LogTerm",
		api.MsgVoted:    "Good",
		api.MsgAppend:   "Index LogTerm Commit Round Entries",
		api.MsgAppended: "Good Index Round",
		api.MsgChunk:    "Index LogTerm Config Offset Whole Data",
		api.MsgChunked:  "Index Offset",
	}[kind])
}

// Messages of each kind, with something in all of their fields.
func prevote() api.Message {
	return api.Message{Kind: api.MsgPrevote, From: 2, To: 1, Term: 9, Index: 4, LogTerm: 3}
}

func prevoted() api.Message {
	return api.Message{Kind: api.MsgPrevoted, From: 1, To: 2, Term: 9, Good: true}
}

func vote() api.Message {
	return api.Message{Kind: api.MsgVote, From: 7, To: 0, Term: 9, Index: 4, LogTerm: 3}
}

func voted() api.Message {
	return api.Message{Kind: api.MsgVoted, From: 0, To: 7, Term: 9, Good: true}
}

func appends() api.Message {
	return api.Message{Kind: api.MsgAppend, From: 3, To: 5, Term: 9, Index: 4, LogTerm: 2, Commit: 3, Round: 6, Entries: []api.Entry{
		{Index: 5, Term: 2, Kind: api.EntryCommand, Data: []byte("hull")}, {Index: 6, Term: 9}, {Index: 7, Term: 9, Kind: api.EntryConfig, Data: []byte{1, 0, 0}},
	}}
}

func appended() api.Message {
	return api.Message{Kind: api.MsgAppended, From: 5, To: 3, Term: 9, Good: true, Index: 7, Round: 6}
}

func chunk() api.Message {
	return api.Message{Kind: api.MsgChunk, From: 3, To: 6, Term: 9, Index: 4, LogTerm: 2, Config: api.Config{Voters: []int{0, 3}, Learners: []int{6}}, Offset: 2, Whole: 7, Data: []byte("mast")}
}

func chunked() api.Message {
	return api.Message{Kind: api.MsgChunked, From: 6, To: 3, Term: 9, Index: 4, Offset: 6}
}

func eachKind() []api.Message {
	return []api.Message{prevote(), prevoted(), vote(), voted(), appends(), appended(), chunk(), chunked()}
}

// changed answers a message after some changes.
func changed(m api.Message, changes ...func(*api.Message)) api.Message {
	for _, change := range changes {
		change(&m)
	}
	return m
}

// sending answers an append behind an index, in the term 9, of these entries.
func sending(index uint64, l ...api.Entry) api.Message {
	m := appends()
	m.Index, m.Entries = index, l
	return m
}

// entries answers a number of entries in the term 1, the first one with this index.
func entries(first uint64, number int) []api.Entry {
	var l []api.Entry
	for i := range number {
		l = append(l, api.Entry{Index: first + uint64(i), Term: 1, Kind: i % 3, Data: bytes.Repeat([]byte{'x'}, i%3)})
	}
	return l
}

// piece answers a chunk with so many bytes of a snapshot of a size.
func piece(offset uint64, size int, whole uint64) api.Message {
	m := chunk()
	m.Offset, m.Data, m.Whole = offset, bytes.Repeat([]byte{'x'}, size), whole
	return m
}

// about answers a chunk of a snapshot with a configuration.
func about(voters, learners []int) api.Message {
	m := chunk()
	m.Config = api.Config{Voters: voters, Learners: learners}
	return m
}

// text answers what the document calls a Text.
func text(b []byte) []byte {
	n := len(b)
	switch {
	case n < 253:
		return append([]byte{byte(n)}, b...)
	case n < 1<<16:
		return slices.Concat([]byte{253}, binary.BigEndian.AppendUint16(nil, uint16(n)), b)
	}
	return slices.Concat([]byte{254}, binary.BigEndian.AppendUint32(nil, uint32(n)), b)
}

func longs(l ...uint64) []byte {
	var b []byte
	for _, n := range l {
		b = binary.BigEndian.AppendUint64(b, n)
	}
	return b
}

func entryLayout(x api.Entry) []byte {
	return slices.Concat(longs(x.Index, x.Term), []byte{byte(x.Kind)}, text(x.Data))
}

func configLayout(c api.Config) []byte {
	var b []byte
	for _, l := range [][]int{c.Voters, c.Learners} {
		b = append(b, byte(len(l)))
		for _, n := range l {
			b = append(b, byte(n))
		}
	}
	return b
}

// head answers the bytes that begin each message.
func head(m api.Message) []byte {
	return append([]byte{byte(m.Kind), byte(m.From), byte(m.To)}, longs(m.Term)...)
}

// layout answers what the document says of the bytes of a message ahead of the frame, by the plainest means. It takes messages that are not right too.
func layout(m api.Message) []byte {
	b := head(m)
	for _, name := range ownFields(m.Kind) {
		switch x := reflect.ValueOf(m).FieldByName(name).Interface().(type) {
		case uint64:
			b = append(b, longs(x)...)
		case bool:
			b = append(b, map[bool]byte{true: 1}[x])
		case []api.Entry:
			b = append(b, byte(len(x)))
			for _, e := range x {
				b = append(b, text(entryLayout(e))...)
			}
		case api.Config:
			b = append(b, text(configLayout(x))...)
		case []byte:
			b = append(b, text(x)...)
		}
	}
	return b
}

// framed answers a frame with the right checksums around any bytes.
func framed(b []byte) []byte {
	size := binary.BigEndian.AppendUint32(nil, uint32(len(b)))
	sum := func(b []byte) []byte { return binary.BigEndian.AppendUint32(nil, crc32.ChecksumIEEE(b)) }
	return slices.Concat(size, sum(size), b, sum(b))
}

// bytesOf reads bytes in hexadecimal notation, with blanks anywhere.
func bytesOf(t *testing.T, s string) []byte {
	t.Helper()
	b, err := hex.DecodeString(strings.ReplaceAll(s, " ", ""))
	if err != nil {
		t.Fatal(err)
	}
	return b
}

// long is a number of 8 bytes below 256, in hexadecimal notation.
func long(low string) string { return strings.Repeat("00 ", 7) + low + " " }

// plain answers the same message with nil for each list that is empty.
func plain(m api.Message) api.Message {
	m.Entries = cut(slices.Clone(m.Entries))
	for i := range m.Entries {
		m.Entries[i].Data = cut(m.Entries[i].Data)
	}
	m.Config.Voters, m.Config.Learners, m.Data = cut(m.Config.Voters), cut(m.Config.Learners), cut(m.Data)
	return m
}

func cut[T any](l []T) []T {
	if len(l) == 0 {
		return nil
	}
	return l
}

func same(a, b api.Message) bool { return reflect.DeepEqual(plain(a), plain(b)) }

// encoded answers the encoding of a message that is right.
func encoded(t *testing.T, m api.Message) []byte {
	t.Helper()
	b, e := message.Encode(m)
	if e != api.OK {
		t.Fatalf("Encode of %+v answers %d, want OK", m, e)
	}
	return b
}

// is fails the test unless a message is right, is written as a frame of these bytes, and the frame is read as the message.
func is(t *testing.T, what string, m api.Message, body []byte) {
	t.Helper()
	if !message.Right(m) {
		t.Errorf("%s: Right answers false", what)
	}
	want := framed(body)
	if b, e := message.Encode(m); e != api.OK || !bytes.Equal(b, want) {
		t.Errorf("%s: Encode answers % x, %d, want % x", what, short(b), e, short(want))
	}
	if got, e := message.Decode(want); e != api.OK || !same(got, m) {
		t.Errorf("%s: Decode answers %d, or another message than was written", what, e)
	}
}

// right fails the test unless a message is right, and is written and read as the document says.
func right(t *testing.T, what string, m api.Message) {
	t.Helper()
	is(t, what, m, layout(m))
}

// refused fails the test unless a message is not right, and can't be written.
func refused(t *testing.T, what string, m api.Message) {
	t.Helper()
	if message.Right(m) {
		t.Errorf("%s: Right answers true", what)
	}
	if b, e := message.Encode(m); e != api.ErrMessageForm || len(b) != 0 {
		t.Errorf("%s: Encode answers % x, %d, want no bytes and ErrMessageForm", what, short(b), e)
	}
}

// wrong is refused for a message whose bytes would tell it whole: they are not read either.
func wrong(t *testing.T, what string, m api.Message) {
	t.Helper()
	refused(t, what, m)
	none(t, what, framed(layout(m)))
}

// none fails the test unless these bytes are those of no message.
func none(t *testing.T, what string, b []byte) {
	t.Helper()
	if m, e := message.Decode(b); e != api.ErrMessageForm || !reflect.DeepEqual(plain(m), api.Message{}) {
		t.Errorf("%s: Decode of % x answers a message of the kind %d, %d, want the zero message and ErrMessageForm", what, short(b), m.Kind, e)
	}
}

// noBody fails the test unless a right frame of these bytes is that of no message.
func noBody(t *testing.T, what string, parts ...[]byte) {
	t.Helper()
	none(t, what, framed(slices.Concat(parts...)))
}

// short cuts what is too long to be read in a report.
func short(b []byte) []byte { return b[:min(len(b), 80)] }

// The helpers themselves: a frame that the document of the frames has as an example.
func TestFramed(t *testing.T) {
	if b := framed(nil); !bytes.Equal(b, bytesOf(t, "00 00 00 00 21 44 df 1c 00 00 00 00")) {
		t.Errorf("the frame of nothing is % x", b)
	}
}
