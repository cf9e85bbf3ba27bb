package message_test

import (
	"bytes"
	"slices"
	"strings"
	"testing"

	"dockyard/api"
	"dockyard/message"
)

// P16.2: the chapter's table of examples.
func TestExamples(t *testing.T) {
	m := api.Message{Kind: api.MsgVoted, From: 0, To: 1, Term: 3, Good: true}
	is(t, "a vote", m, bytesOf(t, "04 00 01 00 00 00 00 00 00 00 03 01"))
	if b := encoded(t, m); len(b) != 24 || !bytes.Equal(b[:4], []byte{0, 0, 0, 12}) {
		t.Errorf("a vote is written as % x, want a frame of 12 bytes", b)
	}
	refused(t, "a vote to itself", api.Message{Kind: api.MsgVoted, From: 1, To: 1, Term: 3})
	refused(t, "a vote without a term", api.Message{Kind: api.MsgVoted, Term: 0})
	refused(t, "a vote to another one, without a term", api.Message{Kind: api.MsgVoted, To: 1})
}

// P16.2: the bytes of each kind, written out.
func TestBytes(t *testing.T) {
	term := long("09")
	is(t, "a prevote", prevote(), bytesOf(t, "01 02 01"+term+long("04")+long("03")))
	is(t, "a prevote that is granted", prevoted(), bytesOf(t, "02 01 02"+term+"01"))
	is(t, "a prevote that is denied", api.Message{Kind: 2, From: 1, To: 2, Term: 9}, bytesOf(t, "02 01 02"+term+"00"))
	is(t, "a vote asked for", vote(), bytesOf(t, "03 07 00"+term+long("04")+long("03")))
	is(t, "a vote that is given", voted(), bytesOf(t, "04 00 07"+term+"01"))
	is(t, "a vote that is denied", api.Message{Kind: 4, From: 0, To: 7, Term: 9}, bytesOf(t, "04 00 07"+term+"00"))
	is(t, "an append", appends(), bytesOf(t, "05 03 05"+term+long("04")+long("02")+long("03")+long("06")+"03"+
		"16"+long("05")+long("02")+"01 04 68 75 6c 6c"+"12"+long("06")+long("09")+"00 00"+"15"+long("07")+long("09")+"02 03 01 00 00"))
	is(t, "an append of nothing", api.Message{Kind: 5, From: 3, To: 5, Term: 9}, bytesOf(t, "05 03 05"+term+long("00")+long("00")+long("00")+long("00")+"00"))
	is(t, "entries that are taken", appended(), bytesOf(t, "06 05 03"+term+"01"+long("07")+long("06")))
	is(t, "entries that are refused", api.Message{Kind: 6, From: 5, To: 3, Term: 9}, bytesOf(t, "06 05 03"+term+"00"+long("00")+long("00")))
	is(t, "a chunk", chunk(), bytesOf(t, "07 03 06"+term+long("04")+long("02")+"05 02 00 03 01 06"+long("02")+long("07")+"04 6d 61 73 74"))
	is(t, "a chunk that is taken", chunked(), bytesOf(t, "08 06 03"+term+long("04")+long("06")))
	is(t, "a chunk that is not taken", api.Message{Kind: 8, From: 6, To: 3, Term: 9}, bytesOf(t, "08 06 03"+term+long("00")+long("00")))
}

// P16.2: numbers have 8 bytes, the most significant one first, each in its place.
func TestNumbers(t *testing.T) {
	const n = 0x0102030405060708
	number := "01 02 03 04 05 06 07 08 "
	full := strings.Repeat("ff ", 8)
	is(t, "a term", api.Message{Kind: api.MsgVoted, To: 1, Term: n}, bytesOf(t, "04 00 01"+number+"00"))
	is(t, "the end of a log", api.Message{Kind: api.MsgVote, To: 1, Term: 1, Index: n, LogTerm: most}, bytesOf(t, "03 00 01"+long("01")+number+full))
	is(t, "an append", api.Message{Kind: api.MsgAppend, To: 1, Term: most, Index: most, LogTerm: n, Commit: n << 1, Round: n << 2},
		bytesOf(t, "05 00 01"+full+full+number+"02 04 06 08 0a 0c 0e 10"+"04 08 0c 10 14 18 1c 20"+"00"))
	is(t, "an answer to it", api.Message{Kind: api.MsgAppended, To: 1, Term: 1, Index: n, Round: most}, bytesOf(t, "06 00 01"+long("01")+"00"+number+full))
	is(t, "a chunk", api.Message{Kind: api.MsgChunk, To: 1, Term: 1, Index: n, LogTerm: most, Config: api.Config{Voters: []int{7}}, Offset: 0x010203, Whole: 0x010204, Data: []byte{0}},
		bytesOf(t, "07 00 01"+long("01")+number+full+"03 01 07 00"+"00 00 00 00 00 01 02 03"+"00 00 00 00 00 01 02 04"+"01 00"))
	is(t, "an answer to it", api.Message{Kind: api.MsgChunked, To: 1, Term: 1, Index: n, Offset: most}, bytesOf(t, "08 00 01"+long("01")+number+full))
}

// P16.1, P16.2: what all kinds have, at its edges.
func TestHeads(t *testing.T) {
	for _, m := range eachKind() {
		for from := range api.MaxNodes {
			for to := range api.MaxNodes {
				m.From, m.To = from, to
				if from != to {
					right(t, "two nodes", m)
				} else {
					wrong(t, "one node", m)
				}
			}
		}
	}
	for _, m := range eachKind() {
		m.Entries = nil // their terms are at most that of the message
		m.Term = 1
		right(t, "the first term", m)
		m.Term = most
		right(t, "the greatest term", m)
		m.Term = 1 << 63
		right(t, "a great term", m)
	}
}

// P16.1: a field that a kind has may be zero, or as great as it can be, whatever the others are.
func TestFreeFields(t *testing.T) {
	for _, base := range eachKind() {
		if base.Kind == api.MsgChunk {
			continue // it must fit its snapshot
		}
		base.Entries = nil // they would have to follow the index
		for _, n := range []uint64{0, 1, 8, 9, 10, 255, 256, 1 << 32, 1 << 63, most - 1, most} {
			for _, name := range ownFields(base.Kind) {
				m := base
				switch name {
				case "Index":
					m.Index = n
				case "LogTerm":
					m.LogTerm = n
				case "Commit":
					m.Commit = n
				case "Round":
					m.Round = n
				case "Good":
					m.Good = n%2 == 1
				case "Offset":
					m.Offset = n
				}
				right(t, name, m)
			}
		}
	}
}

// P16.1, P16.2: entries at their edges.
func TestEntries(t *testing.T) {
	for number := range api.MaxEntries + 1 {
		for _, index := range []uint64{0, 1, 41, 1 << 32, most - api.MaxEntries} {
			right(t, "entries that follow", sending(index, entries(index+1, number)...))
		}
	}
	right(t, "entries to the greatest index", sending(most-3, entries(most-2, 3)...))
	right(t, "the entry of the greatest index", sending(most-1, api.Entry{Index: most, Term: 9}))
	right(t, "no entries behind the greatest index", sending(most))
	right(t, "terms up to the message's", sending(0, api.Entry{Index: 1, Term: 9}, api.Entry{Index: 2, Term: 1}, api.Entry{Index: 3, Term: 9}))
	first, last := sending(0, entries(1, 8)...), sending(0, api.Entry{Index: 1, Term: most})
	first.Term, last.Term = 1, most
	right(t, "the first term", first)
	right(t, "the greatest term", last)
	right(t, "an entry of an older term than the one ahead", sending(4, api.Entry{Index: 5, Term: 1}))

	full := bytes.Repeat([]byte{7}, api.MaxData)
	for kind := api.EntryCommand; kind <= api.EntryConfig; kind++ {
		for _, size := range []int{0, 1, 2, 234, 235, 252, 253, 254, 65514, 65515, 65516, 65535, api.MaxData} {
			right(t, "data of some size", sending(6, api.Entry{Index: 7, Term: 8, Kind: kind, Data: full[:size]}))
		}
	}
	var longest []api.Entry
	for i := range api.MaxEntries {
		longest = append(longest, api.Entry{Index: uint64(i) + 1, Term: 1, Kind: api.EntryCommand, Data: full})
	}
	right(t, "as much as can be", sending(0, longest...))
}

// P16.1, P16.2: pieces of snapshots at their edges.
func TestChunks(t *testing.T) {
	for what, m := range map[string]api.Message{
		"all of nothing":              piece(0, 0, 0),
		"all of a byte":               piece(0, 1, 1),
		"nothing, at the end":         piece(1, 0, 1),
		"nothing, at the end of much": piece(api.MaxSnap, 0, api.MaxSnap),
		"a byte ahead of more":        piece(0, 1, 2),
		"the last byte":               piece(1, 1, 2),
		"the last byte of much":       piece(api.MaxSnap-1, 1, api.MaxSnap),
		"the first byte of much":      piece(0, 1, api.MaxSnap),
		"the most bytes":              piece(0, api.MaxChunk, api.MaxChunk),
		"the most bytes, then more":   piece(0, api.MaxChunk, api.MaxChunk+1),
		"the most bytes of much":      piece(0, api.MaxChunk, api.MaxSnap),
		"the most bytes, at the end":  piece(api.MaxSnap-api.MaxChunk, api.MaxChunk, api.MaxSnap),
		"a byte less than the most":   piece(5, api.MaxChunk-1, api.MaxChunk+4),
		"252 bytes":                   piece(0, 252, 252),
		"253 bytes":                   piece(0, 253, 253),
	} {
		right(t, what, m)
		m.Index = 1
		right(t, what+" at the index 1", m)
		m.Index = most - 1
		right(t, what+" at the greatest index", m)
		m.LogTerm = 1
		right(t, what+" of the term 1", m)
		m.LogTerm = most
		right(t, what+" of a term beyond the message's", m)
	}
	all := []int{0, 1, 2, 3, 4, 5, 6, 7}
	for _, m := range []api.Message{
		about([]int{0}, nil), about([]int{7}, nil), about([]int{0}, []int{7}), about([]int{7}, []int{0}), about(all, nil),
		about(all[:1], all[1:]), about(all[1:], all[:1]), about([]int{1, 3, 5}, []int{0, 2, 7}), about([]int{4, 5}, []int{}),
	} {
		// Neither the sender nor the recipient need be in it.
		right(t, "a configuration", m)
	}
}

// P16.2: what is longer than one frame is no message, be it two messages.
func TestOneFrame(t *testing.T) {
	for _, m := range eachKind() {
		b := encoded(t, m)
		none(t, "twice", slices.Concat(b, b))
		none(t, "with a frame of nothing", slices.Concat(b, framed(nil)))
		none(t, "in a frame more", framed(b))
		none(t, "without a frame", layout(m))
	}
	none(t, "a frame of nothing", framed(nil))
	if _, e := message.Decode(nil); e != api.ErrMessageForm {
		t.Errorf("Decode of nothing answers %d", e)
	}
}
