package entry_test

import (
	"bytes"
	"encoding/hex"
	"reflect"
	"strings"
	"testing"

	"dockyard/api"
	"dockyard/entry"
)

// bytesOf reads bytes in hexadecimal notation, with blanks anywhere.
func bytesOf(t *testing.T, s string) []byte {
	t.Helper()
	b, err := hex.DecodeString(strings.ReplaceAll(s, " ", ""))
	if err != nil {
		t.Fatal(err)
	}
	return b
}

// long is a number of 8 bytes below 256, in hexadecimal notation.
func long(low string) string { return strings.Repeat("00 ", 7) + low + " " }

func text(n int) string { return strings.Repeat("x", n) }

func submit(targets ...api.Target) api.Command {
	return api.Command{Kind: api.CmdSubmit, Session: 3, Seq: 1, Graph: api.Graph{Targets: targets}}
}

// emptyAsNil makes an empty list nil, for they count as the same.
func emptyAsNil[T any](l []T) []T {
	if len(l) == 0 {
		return nil
	}
	return l
}

func plainEntry(e api.Entry) api.Entry {
	e.Data = emptyAsNil(e.Data)
	return e
}

func plainCommand(c api.Command) api.Command {
	var targets []api.Target
	for _, x := range c.Graph.Targets {
		x.Needs = emptyAsNil(x.Needs)
		targets = append(targets, x)
	}
	c.Graph.Targets = targets
	return c
}

func sameEntry(a, b api.Entry) bool {
	return reflect.DeepEqual(plainEntry(a), plainEntry(b))
}

func sameCommand(a, b api.Command) bool {
	return reflect.DeepEqual(plainCommand(a), plainCommand(b))
}

func encoded(t *testing.T, e api.Entry) []byte {
	t.Helper()
	b, code := entry.Encode(e)
	if code != api.OK {
		t.Fatalf("Encode answers %d, want OK", code)
	}
	return b
}

func written(t *testing.T, c api.Command) []byte {
	t.Helper()
	b, code := entry.Command(c)
	if code != api.OK {
		t.Fatalf("Command(%+v) answers %d, want OK", c, code)
	}
	return b
}

// isEntry fails the test unless an entry is written as these bytes, and they are read as the entry.
func isEntry(t *testing.T, e api.Entry, want []byte) {
	t.Helper()
	if b, code := entry.Encode(e); code != api.OK || !bytes.Equal(b, want) {
		t.Errorf("Encode answers % x, %d, want % x", short(b), code, short(want))
	}
	if got, code := entry.Decode(want); code != api.OK || !sameEntry(got, e) {
		t.Errorf("Decode(% x) answers %d, or another entry than was written", short(want), code)
	}
}

// isCommand fails the test unless a command is right, is written as these bytes, and they are read as the command.
func isCommand(t *testing.T, c api.Command, want []byte) {
	t.Helper()
	if !entry.Right(c) {
		t.Errorf("Right(%+v) answers false", c)
	}
	if b, code := entry.Command(c); code != api.OK || !bytes.Equal(b, want) {
		t.Errorf("Command(%+v) answers % x, %d, want % x", c, short(b), code, short(want))
	}
	if got, code := entry.ReadCommand(want); code != api.OK || !sameCommand(got, c) {
		t.Errorf("ReadCommand(% x) answers %+v, %d, want %+v", short(want), got, code, c)
	}
}

// noEntry fails the test unless these bytes are those of no entry.
func noEntry(t *testing.T, what string, b []byte) {
	t.Helper()
	if e, code := entry.Decode(b); code != api.ErrEntryForm || !reflect.DeepEqual(e, api.Entry{}) {
		t.Errorf("%s: Decode(% x) answers an entry of %d bytes of data, %d, want the zero entry and ErrEntryForm", what, short(b), len(e.Data), code)
	}
}

// noCommand fails the test unless these bytes are those of no command.
func noCommand(t *testing.T, what string, b []byte) {
	t.Helper()
	if c, code := entry.ReadCommand(b); code != api.ErrEntryForm || !reflect.DeepEqual(c, api.Command{}) {
		t.Errorf("%s: ReadCommand(% x) answers %+v, %d, want the zero command and ErrEntryForm", what, short(b), c, code)
	}
}

// notRight fails the test unless a command can't be written.
func notRight(t *testing.T, what string, c api.Command) {
	t.Helper()
	if entry.Right(c) {
		t.Errorf("%s: Right answers true", what)
	}
	if b, code := entry.Command(c); code != api.ErrEntryForm || b != nil {
		t.Errorf("%s: Command answers % x, %d, want nil, ErrEntryForm", what, short(b), code)
	}
}

// short cuts what is too long to be read in a report.
func short(b []byte) []byte { return b[:min(len(b), 80)] }

// fill overwrites a slice with its capacity: nothing else may change by that.
func fill(b []byte) {
	b = b[:cap(b)]
	for i := range b {
		b[i] = 0xee
	}
}
