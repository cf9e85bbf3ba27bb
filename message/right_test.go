package message_test

import (
	"bytes"
	"math"
	"reflect"
	"slices"
	"testing"

	"dockyard/api"
)

// strange answers numbers that are none of a node, some of which have the lowest byte of one.
func strange() []int {
	return []int{-1, -2, -8, -255, -256, 8, 9, 16, 255, 256, 257, 1 << 32, 1<<32 + 1, math.MaxInt, math.MinInt, math.MinInt + 1}
}

// isByte answers whether a number can stand in a byte.
func isByte(n int) bool { return n >= 0 && n <= 255 }

// P16.1: kinds that are none, with the fields of any other kind.
func TestNoKind(t *testing.T) {
	for _, kind := range []int{0, -1, -5, 9, 10, 255, 256, 257, 261, 1 << 32, 1<<32 + 5, math.MaxInt, math.MinInt, math.MinInt + 1} {
		refused(t, "a kind that is none", api.Message{Kind: kind, To: 1, Term: 1})
		for _, m := range eachKind() {
			b := layout(m)
			m.Kind = kind
			refused(t, "a kind that is none", m)
			if isByte(kind) {
				b[0] = byte(kind)
				none(t, "a kind that is none", framed(b))
			}
		}
	}
	for kind := range 256 {
		if kind < 1 || kind > 8 {
			noBody(t, "a head of no kind", head(api.Message{Kind: kind, To: 1, Term: 1}))
		}
	}
	refused(t, "the zero message", api.Message{})
}

// P16.1: nodes that are none.
func TestNoNode(t *testing.T) {
	for _, base := range eachKind() {
		for _, n := range strange() {
			for _, m := range []api.Message{
				changed(base, func(m *api.Message) { m.From = n }),
				changed(base, func(m *api.Message) { m.To = n }),
				changed(base, func(m *api.Message) { m.From, m.To = n, n }),
				changed(base, func(m *api.Message) { m.From, m.To = n, n+1 }),
				changed(base, func(m *api.Message) { m.From, m.To = 0, n }),
				changed(base, func(m *api.Message) { m.From, m.To = n, 7 }),
			} {
				refused(t, "a node that is none", m)
				if isByte(m.From) && isByte(m.To) {
					wrong(t, "a node that is none", m)
				}
			}
		}
	}
}

// P16.1: the term 0.
func TestNoTerm(t *testing.T) {
	for _, m := range eachKind() {
		m.Term = 0
		wrong(t, "no term", m)
		m.Entries = nil
		wrong(t, "no term, and no entries", m)
	}
}

// P16.1: each field that a kind has not, one at a time.
func TestOtherFields(t *testing.T) {
	samples := map[string][]any{
		"Index":   {uint64(1), uint64(1 << 63), uint64(most)},
		"LogTerm": {uint64(1), uint64(1 << 32), uint64(most)},
		"Commit":  {uint64(1), uint64(1 << 40), uint64(most)},
		"Round":   {uint64(1), uint64(256), uint64(most)},
		"Good":    {true},
		"Entries": {[]api.Entry{{Index: 1, Term: 1}}, []api.Entry{{Index: 5, Term: 1}}, []api.Entry{{Index: 8, Term: 1}}, []api.Entry{{}}, make([]api.Entry, 9)},
		"Config":  {api.Config{Voters: []int{0}}, api.Config{Learners: []int{0}}, api.Config{Voters: []int{0}, Learners: []int{1}}, api.Config{Voters: []int{-1}}},
		"Offset":  {uint64(1), uint64(api.MaxSnap), uint64(most)},
		"Whole":   {uint64(1), uint64(api.MaxSnap), uint64(most)},
		"Data":    {[]byte{0}, []byte("x"), make([]byte, api.MaxChunk), make([]byte, api.MaxChunk+1)},
	}
	tried := 0
	for _, base := range eachKind() {
		for name, values := range samples {
			if slices.Contains(ownFields(base.Kind), name) {
				continue
			}
			for _, value := range values {
				m := base
				reflect.ValueOf(&m).Elem().FieldByName(name).Set(reflect.ValueOf(value))
				refused(t, name+" of a kind that has it not", m)
				tried++
			}
		}
	}
	if tried != 192 {
		t.Errorf("%d values were tried, want 192", tried)
	}
}

// P16.1, R4: lists that are empty and not nil count as none, in the fields that a kind has not too.
func TestEmptyLists(t *testing.T) {
	for _, m := range eachKind() {
		if m.Kind != api.MsgAppend {
			m.Entries = []api.Entry{}
		}
		if m.Kind != api.MsgChunk {
			m.Config = api.Config{Voters: []int{}, Learners: []int{}}
			m.Data = []byte{}
		}
		right(t, "empty lists", m)
	}
	m := sending(3, api.Entry{Index: 4, Term: 1, Data: []byte{}})
	right(t, "an entry with empty data", m)
	m.Entries = m.Entries[:0]
	right(t, "empty entries", m)
	m = piece(4, 0, 4)
	m.Data, m.Config.Learners = []byte{}, []int{}
	right(t, "empty data and no learners", m)
}

// P16.1: entries that can't be sent.
func TestNoEntries(t *testing.T) {
	for number := 9; number < 20; number++ {
		wrong(t, "too many entries", sending(0, entries(1, number)...))
	}
	wrong(t, "very many entries", sending(0, entries(1, 252)...))
	refused(t, "very many entries", sending(0, entries(1, 300)...))

	for what, x := range map[string]api.Entry{
		"the zero entry":        {},
		"no term":               {Index: 5, Kind: api.EntryCommand},
		"kind 3":                {Index: 5, Term: 1, Kind: 3},
		"kind 255":              {Index: 5, Term: 1, Kind: 255},
		"none, with data":       {Index: 5, Term: 1, Data: []byte{0}},
		"too much data":         {Index: 5, Term: 1, Kind: api.EntryCommand, Data: make([]byte, api.MaxData+1)},
		"too long a config":     {Index: 5, Term: 1, Kind: api.EntryConfig, Data: make([]byte, api.MaxData+1)},
		"a term above":          {Index: 5, Term: 10},
		"a term far above":      {Index: 5, Term: most},
		"the index ahead":       {Index: 4, Term: 1},
		"an index too great":    {Index: 6, Term: 1},
		"the index 0":           {Index: 0, Term: 1},
		"the index 1":           {Index: 1, Term: 1},
		"the greatest index":    {Index: most, Term: 1},
		"an index of 2^32 more": {Index: 5 + 1<<32, Term: 1},
	} {
		wrong(t, what, sending(4, x))
		wrong(t, what+", the first one", sending(4, append([]api.Entry{x}, entries(6, 7)...)...))
		x.Index += 7
		wrong(t, what+", the last one", sending(4, append(entries(5, 7), x)...))
	}
	for _, kind := range []int{-1, 256, 257, 1 << 32, math.MaxInt, math.MinInt} {
		refused(t, "a kind that is no byte", sending(4, api.Entry{Index: 5, Term: 1, Kind: kind}))
	}
	for i := range api.MaxEntries {
		for _, term := range []uint64{0, 10, most} {
			l := entries(1, api.MaxEntries)
			l[i].Term = term
			wrong(t, "a term that can't be", sending(0, l...))
		}
	}
}

// P16.1: indices that do not follow one another, and such as go past the greatest one.
func TestNoOrder(t *testing.T) {
	for i := range api.MaxEntries {
		for _, by := range []uint64{1, 2, 1 << 32, 1 << 63, most - 1, most} {
			l := entries(11, api.MaxEntries)
			l[i].Index += by
			wrong(t, "an index out of order", sending(10, l...))
			for k := i + 1; k < len(l); k++ {
				l[k].Index += by
			}
			wrong(t, "a gap, or a step back", sending(10, l...))
		}
	}
	l := entries(11, 4)
	slices.Reverse(l)
	wrong(t, "indices that fall", sending(10, l...))
	wrong(t, "one index twice", sending(10, api.Entry{Index: 11, Term: 1}, api.Entry{Index: 11, Term: 1}))
	wrong(t, "indices all the same", sending(0, slices.Repeat([]api.Entry{{Index: 1, Term: 1}}, 8)...))
	wrong(t, "indices from that of the message", sending(10, entries(10, 3)...))
	wrong(t, "indices from one further on", sending(10, entries(12, 3)...))
	for number := 1; number <= api.MaxEntries; number++ {
		wrong(t, "indices from 0 behind the greatest one", sending(most, entries(0, number)...))
		wrong(t, "indices from 1 behind the greatest one", sending(most, entries(1, number)...))
		for before := range uint64(number) {
			wrong(t, "indices past the greatest one", sending(most-before, entries(most-before+1, number)...))
			l := entries(most-before+1, number)
			for i := range l {
				if l[i].Index < 10 {
					l[i].Index++
				}
			}
			wrong(t, "indices past the greatest one, without 0", sending(most-before, l...))
		}
	}
}

// P16.1: pieces of no snapshot.
func TestNoChunk(t *testing.T) {
	for what, m := range map[string]api.Message{
		"the index 0":                            changed(chunk(), func(m *api.Message) { m.Index = 0 }),
		"the greatest index":                     changed(chunk(), func(m *api.Message) { m.Index = most }),
		"the log's term 0":                       changed(chunk(), func(m *api.Message) { m.LogTerm = 0 }),
		"too great a whole":                      piece(0, 1, api.MaxSnap+1),
		"too great a whole, at its end":          piece(api.MaxSnap+1, 0, api.MaxSnap+1),
		"too great a whole, with its end":        piece(api.MaxSnap, 1, api.MaxSnap+1),
		"the greatest whole":                     piece(0, 1, most),
		"the greatest whole, at its end":         piece(most, 0, most),
		"a whole of 2^32":                        piece(0, 1, 1<<32),
		"nothing behind the end":                 piece(1, 0, 0),
		"nothing behind the end of much":         piece(api.MaxSnap+1, 0, api.MaxSnap),
		"nothing far behind":                     piece(most, 0, 4),
		"a byte behind the end":                  piece(5, 1, 4),
		"a byte at the end":                      piece(4, 1, 4),
		"a byte of nothing":                      piece(0, 1, 0),
		"more than what is left":                 piece(2, 3, 4),
		"more than the whole":                    piece(0, 5, 4),
		"a sum that goes round":                  piece(most, 4, 4),
		"a sum that goes round to 0":             piece(most, 1, 4),
		"a sum that goes round to the whole":     piece(most-3, 8, 4),
		"a sum of 2^63":                          piece(1<<63-4, 4, 4),
		"a byte too many":                        piece(0, api.MaxChunk+1, api.MaxSnap),
		"a byte too many, which are all":         piece(0, api.MaxChunk+1, api.MaxChunk+1),
		"many bytes too many":                    piece(0, api.MaxSnap, api.MaxSnap),
		"nothing ahead of the end":               piece(0, 0, 1),
		"nothing ahead of the end of much":       piece(api.MaxSnap-1, 0, api.MaxSnap),
		"nothing at the beginning of much":       piece(0, 0, api.MaxSnap),
		"nothing, a byte ahead of the end":       piece(3, 0, 4),
		"nothing ahead of the end, nil for data": changed(chunk(), func(m *api.Message) { m.Data = nil }),
	} {
		wrong(t, what, m)
	}
}

// P16.1: configurations of no snapshot.
func TestNoConfig(t *testing.T) {
	for _, m := range []api.Message{
		about(nil, nil), about([]int{}, []int{}), about(nil, []int{0}), about([]int{1, 0}, nil), about([]int{0, 0}, nil), about([]int{0}, []int{0}),
		about([]int{0, 1}, []int{1}), about([]int{0}, []int{2, 1}), about([]int{0}, []int{1, 1}), about([]int{8}, nil), about([]int{0, 255}, nil),
		about([]int{0}, []int{8}), about([]int{0, 1, 2, 3, 4, 5, 6, 7, 8}, nil), about([]int{0, 1, 2, 3, 4, 5, 6, 7, 7}, nil), about(make([]int, 252), nil),
	} {
		wrong(t, "a configuration that is none", m)
	}
	for _, n := range strange() {
		refused(t, "a voter that is none", about([]int{n}, nil))
		refused(t, "a learner that is none", about([]int{0}, []int{n}))
	}
}

// P16.1, R5: Right changes nothing of what it is given.
func TestRightMemory(t *testing.T) {
	data := append([]byte("mast"), "more"...)
	l := append(entries(5, 3), api.Entry{Index: 99})
	m, c := sending(4, l[:3]...), chunk()
	m.Entries, c.Data = l[:3], data[:4]
	right(t, "an append", m)
	right(t, "a chunk", c)
	if !reflect.DeepEqual(l, append(entries(5, 3), api.Entry{Index: 99})) || !bytes.Equal(data, []byte("mastmore")) {
		t.Errorf("the lists became %+v, %q", l, data)
	}
}
