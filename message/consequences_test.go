package message_test

import (
	"bytes"
	"math/rand/v2"
	"reflect"
	"slices"
	"testing"

	"dockyard/api"
	"dockyard/message"
)

// anyNumber is of any size, and often at an edge of one.
func anyNumber(source *rand.Rand) uint64 {
	switch source.IntN(4) {
	case 0:
		return uint64(source.IntN(5))
	case 1:
		return most - uint64(source.IntN(5))
	case 2:
		return uint64(1)<<source.IntN(64) - uint64(source.IntN(2))
	}
	return source.Uint64() >> source.IntN(64)
}

func anyBytes(source *rand.Rand, size int) []byte {
	b := make([]byte, size)
	for i := range b {
		b[i] = byte(source.IntN(256))
	}
	return b
}

// anySize is short most of the time.
func anySize(source *rand.Rand, top int) int {
	switch source.IntN(20) {
	case 0:
		return top - source.IntN(3)
	case 1:
		return min(250+source.IntN(8), top)
	case 2:
		return source.IntN(top + 1)
	}
	return source.IntN(8)
}

func anyConfig(source *rand.Rand) api.Config {
	var c api.Config
	for n := range api.MaxNodes {
		switch source.IntN(3) {
		case 0:
			c.Voters = append(c.Voters, n)
		case 1:
			c.Learners = append(c.Learners, n)
		}
	}
	if len(c.Voters) == 0 {
		return api.Config{Voters: []int{3}}
	}
	return c
}

func anyEntries(source *rand.Rand, m api.Message) []api.Entry {
	number := min(uint64(source.IntN(api.MaxEntries+1)), most-m.Index)
	var l []api.Entry
	for i := range number {
		x := api.Entry{Index: m.Index + 1 + i, Term: 1 + source.Uint64N(m.Term), Kind: source.IntN(3)}
		if x.Kind != api.EntryNone {
			x.Data = anyBytes(source, anySize(source, 2000))
		}
		l = append(l, x)
	}
	return l
}

// anyMessage answers a message that is right.
func anyMessage(source *rand.Rand) api.Message {
	m := api.Message{Kind: 1 + source.IntN(8), From: source.IntN(8), Term: max(anyNumber(source), 1)}
	m.To = (m.From + 1 + source.IntN(7)) % 8
	for _, name := range ownFields(m.Kind) {
		switch name {
		case "Index":
			m.Index = anyNumber(source)
		case "LogTerm":
			m.LogTerm = anyNumber(source)
		case "Commit":
			m.Commit = anyNumber(source)
		case "Round":
			m.Round = anyNumber(source)
		case "Good":
			m.Good = source.IntN(2) == 1
		case "Entries":
			m.Entries = anyEntries(source, m)
		case "Offset":
			m.Offset = anyNumber(source)
		}
	}
	if m.Kind == api.MsgChunk {
		m.Index, m.LogTerm, m.Config = min(max(m.Index, 1), most-1), max(m.LogTerm, 1), anyConfig(source)
		m.Whole = uint64(source.IntN(api.MaxSnap + 1))
		left := uint64(anySize(source, api.MaxChunk+1))
		m.Offset = m.Whole - min(left, m.Whole)
		size := min(m.Whole-m.Offset, api.MaxChunk)
		if size > 0 {
			size = 1 + source.Uint64N(size)
		}
		m.Data = anyBytes(source, int(size))
	}
	return m
}

// P16.3, P16.2: what is written is read back, and has the bytes that the document says.
func TestRoundTrip(t *testing.T) {
	source := rand.New(rand.NewPCG(16, 1))
	seen := map[string]api.Message{}
	for range 20000 {
		m := anyMessage(source)
		right(t, "any message", m)
		if t.Failed() {
			t.Fatalf("it is %+v", m)
		}
		b := string(encoded(t, m))
		if other, there := seen[b]; there && !same(other, m) {
			t.Fatalf("%+v and %+v are written as % x", other, m, b)
		}
		seen[b] = m
	}
}

// damaged answers bytes with some of them changed, added or removed.
func damaged(source *rand.Rand, b []byte) []byte {
	b = slices.Clone(b)
	for range 1 + source.IntN(2) {
		i := source.IntN(len(b))
		switch source.IntN(6) {
		case 0:
			b = slices.Insert(b, i, byte(source.IntN(3)))
		case 1:
			b = slices.Delete(b, i, min(i+1, len(b)-1))
		case 2:
			b[i] ^= 1 << source.IntN(8)
		case 3:
			b[min(source.IntN(12), len(b)-1)] = byte(source.IntN(10))
		default:
			b[i] = byte(source.IntN(10))
		}
	}
	return b
}

// P16.3, R1: what is read of damaged bytes in a right frame is right and written as the same bytes; all else is refused.
func TestWriteBack(t *testing.T) {
	source := rand.New(rand.NewPCG(16, 2))
	read := map[int]int{}
	for range 100000 {
		b := framed(damaged(source, layout(anyMessage(source))))
		m, e := message.Decode(b)
		if e != api.OK {
			none(t, "damaged", b)
			continue
		}
		read[m.Kind]++
		if !message.Right(m) || !bytes.Equal(encoded(t, m), b) || !fine(m) {
			t.Fatalf("% x is read as %+v", short(b), m)
		}
	}
	for kind := 1; kind <= 8; kind++ {
		if read[kind] < 500 {
			t.Errorf("only %d messages of the kind %d were read", read[kind], kind)
		}
	}
}

// P16.3: one bit inverted anywhere, in messages of any size.
func TestAnyBit(t *testing.T) {
	source := rand.New(rand.NewPCG(16, 3))
	for range 20000 {
		b := encoded(t, anyMessage(source))
		b[source.IntN(len(b))] ^= 1 << source.IntN(8)
		none(t, "a bit inverted", b)
	}
}

// fine answers whether a message is right, as far as it is one of small numbers, by other means than the program's.
func fine(m api.Message) bool {
	if m.Kind < 1 || m.Kind > 8 || m.From < 0 || m.From > 7 || m.To < 0 || m.To > 7 || m.From == m.To || m.Term == 0 {
		return false
	}
	v := reflect.ValueOf(plain(m))
	for i := range v.NumField() {
		name := v.Type().Field(i).Name
		if !slices.Contains(append(ownFields(m.Kind), "Kind", "From", "To", "Term"), name) && !v.Field(i).IsZero() {
			return false
		}
	}
	return fineEntries(m) && (m.Kind != api.MsgChunk || fineChunk(m))
}

func fineEntries(m api.Message) bool {
	before := m.Index
	for _, x := range m.Entries {
		follows := before != most && x.Index == before+1
		if !follows || x.Term == 0 || x.Term > m.Term || x.Kind < 0 || x.Kind > 2 || len(x.Data) > 65536 || x.Kind == 0 && len(x.Data) > 0 {
			return false
		}
		before++
	}
	return len(m.Entries) <= 8
}

func fineChunk(m api.Message) bool {
	nodes := map[int]int{}
	for _, l := range [][]int{m.Config.Voters, m.Config.Learners} {
		for i, n := range l {
			nodes[n]++
			if n < 0 || n > 7 || nodes[n] > 1 || i > 0 && l[i-1] > n {
				return false
			}
		}
	}
	if len(m.Config.Voters) == 0 || m.Index == 0 || m.LogTerm == 0 || m.Index == most || m.Whole > 1<<20 || m.Offset > 1<<20 {
		return false
	}
	end := int(m.Offset) + len(m.Data)
	return end <= int(m.Whole) && len(m.Data) <= 4096 && (len(m.Data) > 0 || m.Offset == m.Whole)
}

// disturb changes a message in one place, which may leave it right or not.
func disturb(source *rand.Rand, m *api.Message) {
	number := anyNumber(source)
	small := source.IntN(12) - 2
	switch source.IntN(16) {
	case 0:
		m.Kind = small
	case 1:
		m.From = small
	case 2:
		m.To = small
	case 3:
		m.Term = number
	case 4:
		m.Index = number
	case 5:
		m.LogTerm = number
	case 6:
		m.Commit = number
	case 7:
		m.Round = number
	case 8:
		m.Good = !m.Good
	case 9:
		m.Offset += uint64(small)
	case 10:
		m.Whole += uint64(small)
	case 11:
		m.Data = anyBytes(source, anySize(source, api.MaxChunk+1))
	case 12:
		m.Config.Voters = append(slices.Clone(m.Config.Voters), small)
	case 13:
		m.Config.Learners = append(slices.Clone(m.Config.Learners), small)
	case 14:
		m.Entries = append(slices.Clone(m.Entries), api.Entry{Index: m.Index + 1 + uint64(len(m.Entries)), Term: max(m.Term/2, 1), Kind: small % 4})
	default:
		disturbEntry(source, m)
	}
}

func disturbEntry(source *rand.Rand, m *api.Message) {
	if len(m.Entries) == 0 {
		return
	}
	m.Entries = slices.Clone(m.Entries)
	x := &m.Entries[source.IntN(len(m.Entries))]
	switch source.IntN(4) {
	case 0:
		x.Index = anyNumber(source)
	case 1:
		x.Term = anyNumber(source)
	case 2:
		x.Kind = source.IntN(5) - 1
	default:
		x.Data = make([]byte, api.MaxData+source.IntN(3)-1)
	}
}

// P16.1: which messages are right, held against another telling of the chapter's words.
func TestDisturbed(t *testing.T) {
	source := rand.New(rand.NewPCG(16, 4))
	count := map[bool]int{}
	for range 60000 {
		m := anyMessage(source)
		for range 1 + source.IntN(2) {
			disturb(source, &m)
		}
		want := fine(m)
		count[want]++
		if want {
			right(t, "disturbed", m)
		} else {
			refused(t, "disturbed", m)
		}
		if t.Failed() {
			t.Fatalf("it is %+v", m)
		}
	}
	if count[true] < 5000 || count[false] < 5000 {
		t.Errorf("right and wrong are %v", count)
	}
}
