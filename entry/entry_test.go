package entry_test

import (
	"bytes"
	"math"
	"reflect"
	"testing"

	"dockyard/api"
	"dockyard/entry"
)

// P4.1, P4.3: the chapter's table of examples.
func TestExamples(t *testing.T) {
	isEntry(t, api.Entry{Index: 1, Term: 2, Kind: api.EntryNone}, bytesOf(t, "00 00 00 00 00 00 00 01 00 00 00 00 00 00 00 02 00 00"))
	for _, e := range []api.Entry{
		{Index: 0, Term: 1, Kind: api.EntryCommand, Data: []byte{5}},
		{Index: 1, Term: 1, Kind: api.EntryNone, Data: []byte{5}},
	} {
		if b, code := entry.Encode(e); code != api.ErrEntryForm || b != nil {
			t.Errorf("Encode(%+v) answers % x, %d, want nil, ErrEntryForm", e, b, code)
		}
	}
	isCommand(t, api.Command{Kind: api.CmdAdvance, Time: 5}, bytesOf(t, "07 00 00 00 00 00 00 00 05"))
	notRight(t, "an advance with a session", api.Command{Kind: api.CmdAdvance, Session: 1})
}

// P4.1: the bytes of entries of the three kinds, with data of every size of a length.
func TestEntryBytes(t *testing.T) {
	full := bytes.Repeat([]byte{7}, api.MaxData)
	front := long("01") + long("02")
	for _, c := range []struct {
		e    api.Entry
		want []byte
	}{
		{api.Entry{Index: 1, Term: 2, Kind: api.EntryNone, Data: []byte{}}, bytesOf(t, front+"00 00")},
		{api.Entry{Index: 1, Term: 2, Kind: api.EntryCommand}, bytesOf(t, front+"01 00")},
		{api.Entry{Index: 1, Term: 2, Kind: api.EntryCommand, Data: []byte{0, 255}}, bytesOf(t, front+"01 02 00 ff")},
		{api.Entry{Index: 1, Term: 2, Kind: api.EntryConfig}, bytesOf(t, front+"02 00")},
		{api.Entry{Index: 1, Term: 2, Kind: api.EntryConfig, Data: []byte{9}}, bytesOf(t, front+"02 01 09")},
		{
			api.Entry{Index: 0x0102030405060708, Term: math.MaxUint64, Kind: api.EntryCommand, Data: []byte("hull")},
			bytesOf(t, "01 02 03 04 05 06 07 08 ff ff ff ff ff ff ff ff 01 04 68 75 6c 6c"),
		},
		{
			api.Entry{Index: math.MaxUint64, Term: 1 << 63, Kind: api.EntryConfig, Data: []byte{1}},
			bytesOf(t, "ff ff ff ff ff ff ff ff 80 00 00 00 00 00 00 00 02 01 01"),
		},
		{api.Entry{Index: 1, Term: 2, Kind: api.EntryCommand, Data: full[:252]}, append(bytesOf(t, front+"01 fc"), full[:252]...)},
		{api.Entry{Index: 1, Term: 2, Kind: api.EntryCommand, Data: full[:253]}, append(bytesOf(t, front+"01 fd 00 fd"), full[:253]...)},
		{api.Entry{Index: 1, Term: 2, Kind: api.EntryConfig, Data: full[:api.MaxData-1]}, append(bytesOf(t, front+"02 fd ff ff"), full[:api.MaxData-1]...)},
		{api.Entry{Index: 1, Term: 2, Kind: api.EntryConfig, Data: full}, append(bytesOf(t, front+"02 fe 00 01 00 00"), full...)},
	} {
		isEntry(t, c.e, c.want)
	}
}

// P4.1: what can't be written.
func TestEntryRefused(t *testing.T) {
	for name, e := range map[string]api.Entry{
		"the zero entry":       {},
		"no index":             {Term: 1, Kind: api.EntryCommand},
		"no term":              {Index: 1, Kind: api.EntryConfig},
		"kind 3":               {Index: 1, Term: 1, Kind: 3},
		"kind -1":              {Index: 1, Term: 1, Kind: -1},
		"kind 256":             {Index: 1, Term: 1, Kind: 256},
		"kind 257":             {Index: 1, Term: 1, Kind: 257},
		"the greatest kind":    {Index: 1, Term: 1, Kind: math.MaxInt},
		"the least kind":       {Index: 1, Term: 1, Kind: math.MinInt},
		"none, with data":      {Index: 1, Term: 1, Kind: api.EntryNone, Data: []byte{0}},
		"none, with much data": {Index: 1, Term: 1, Kind: api.EntryNone, Data: make([]byte, api.MaxData)},
		"a command too long":   {Index: 1, Term: 1, Kind: api.EntryCommand, Data: make([]byte, api.MaxData+1)},
		"a config too long":    {Index: 1, Term: 1, Kind: api.EntryConfig, Data: make([]byte, api.MaxData+1)},
	} {
		if b, code := entry.Encode(e); code != api.ErrEntryForm || b != nil {
			t.Errorf("%s: Encode answers % x, %d, want nil, ErrEntryForm", name, short(b), code)
		}
	}
}

// P4.1: bytes that are those of no entry, most of them for one fault alone.
func TestEntryBytesRefused(t *testing.T) {
	right := long("01") + long("01")
	for name, s := range map[string]string{
		"no bytes":                   "",
		"an index alone":             long("01"),
		"index 0":                    long("00") + long("01") + "01 00",
		"term 0":                     long("01") + long("00") + "01 00",
		"no kind":                    right,
		"no data":                    right + "01",
		"kind 3":                     right + "03 00",
		"kind 255":                   right + "ff 00",
		"none, with data":            right + "00 01 05",
		"data cut off":               right + "01 02 05",
		"a byte more":                right + "01 01 05 00",
		"a byte more than none":      right + "00 00 00",
		"a length in 3 bytes":        right + "01 fd 00 01 05",
		"no data, told in 3 bytes":   right + "00 fd 00 00",
		"a length that is cut off":   right + "01 fd 00",
		"a length beyond all bounds": right + "01 ff ff ff ff ff ff ff ff ff",
	} {
		noEntry(t, name, bytesOf(t, s))
	}
	tooLong := append(bytesOf(t, right+"01 fe 00 01 00 01"), make([]byte, api.MaxData+1)...)
	noEntry(t, "data too long", tooLong)
	tooLong[16] = api.EntryConfig
	noEntry(t, "data of a config too long", tooLong)
	for n := range 256 {
		noEntry(t, "the same bytes", bytes.Repeat([]byte{byte(n)}, 400))
	}
}

// P4.1, R5: entries and bytes are the caller's before and after.
func TestEntryMemory(t *testing.T) {
	data := append(make([]byte, 0, 16), 1, 2, 3)
	e := api.Entry{Index: 4, Term: 5, Kind: api.EntryCommand, Data: data}
	b := encoded(t, e)
	if behind := data[:16]; !bytes.Equal(behind, append([]byte{1, 2, 3}, make([]byte, 13)...)) {
		t.Errorf("Encode has changed the data to % x", behind)
	}
	want := bytes.Clone(b)
	fill(b)
	if again := encoded(t, e); !bytes.Equal(again, want) {
		t.Errorf("Encode answers % x, then % x", want, again)
	}

	given := append(make([]byte, 0, 64), want...)
	first, _ := entry.Decode(given)
	second, code := entry.Decode(given)
	if behind := given[:64]; code != api.OK || !bytes.Equal(behind, append(bytes.Clone(want), make([]byte, 64-len(want))...)) {
		t.Errorf("Decode answers %d, and the bytes are % x", code, behind)
	}
	fill(first.Data)
	fill(given)
	if !reflect.DeepEqual(second, e) {
		t.Errorf("the second entry became %+v, want %+v", second, e)
	}
}
