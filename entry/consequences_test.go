package entry_test

import (
	"bytes"
	"math/rand/v2"
	"slices"
	"testing"

	"dockyard/api"
	"dockyard/entry"
)

// anyNumber is of any size, small ones being frequent.
func anyNumber(source *rand.Rand) uint64 { return source.Uint64() >> source.IntN(64) }

func anyBytes(source *rand.Rand, most int) []byte {
	b := make([]byte, source.IntN(most+1))
	for i := range b {
		b[i] = byte(source.IntN(256))
	}
	return b
}

func anyEntry(source *rand.Rand) api.Entry {
	e := api.Entry{Index: max(1, anyNumber(source)), Term: max(1, anyNumber(source)), Kind: source.IntN(3)}
	if e.Kind != api.EntryNone {
		e.Data = anyBytes(source, 6)
	}
	return e
}

func anyTarget(source *rand.Rand) api.Target {
	x := api.Target{Name: string(anyBytes(source, 2)), Command: string(anyBytes(source, 3))}
	if source.IntN(20) == 0 {
		x.Command = text(250 + source.IntN(7))
	}
	for range source.IntN(3) {
		x.Needs = append(x.Needs, string(anyBytes(source, 2)))
	}
	return x
}

func anyCommand(source *rand.Rand) api.Command {
	n, s, q := anyNumber(source), anyNumber(source), anyNumber(source)
	switch kind := 1 + source.IntN(7); kind {
	case api.CmdOpen:
		return api.Command{Kind: kind, Session: s}
	case api.CmdSubmit:
		c := api.Command{Kind: kind, Session: s, Seq: q}
		for range source.IntN(4) {
			c.Graph.Targets = append(c.Graph.Targets, anyTarget(source))
		}
		return c
	case api.CmdClaim:
		return api.Command{Kind: kind, Session: s, Seq: q}
	case api.CmdRenew:
		return api.Command{Kind: kind, Session: s, Seq: q, Token: n}
	case api.CmdReport:
		return api.Command{Kind: kind, Session: s, Seq: q, Token: n, Good: source.IntN(2) == 0}
	case api.CmdCancel:
		return api.Command{Kind: kind, Session: s, Seq: q, Id: n}
	default:
		return api.Command{Kind: kind, Time: n}
	}
}

// P4.4: what was written is read back; no proper prefix of it, and nothing that it is a proper prefix of, can be read.
func TestReadBack(t *testing.T) {
	source := rand.New(rand.NewPCG(4, 1))
	for range 3000 {
		e, c := anyEntry(source), anyCommand(source)
		b, d := encoded(t, e), written(t, c)
		isEntry(t, e, b)
		isCommand(t, c, d)
		for n := range b {
			noEntry(t, "a prefix", b[:n])
		}
		for n := range d {
			noCommand(t, "a prefix", d[:n])
		}
		more := append(anyBytes(source, 3), byte(source.IntN(256)))
		noEntry(t, "with more", append(b, more...))
		noCommand(t, "with more", append(d, more...))
	}
}

// damaged answers b with a few changes: bytes set, taken away or put in.
func damaged(source *rand.Rand, b []byte) []byte {
	b = bytes.Clone(b)
	for range 1 + source.IntN(3) {
		i := source.IntN(len(b) + 1)
		switch source.IntN(4) {
		case 0:
			b = slices.Insert(b, i, byte(source.IntN(256)))
		case 1:
			b = slices.Insert(b, i, byte(source.IntN(3)))
		case 2:
			b = slices.Delete(b, i, min(i+1, len(b)))
		default:
			if i < len(b) {
				b[i] = byte(source.IntN(4))
			}
		}
	}
	return b
}

// P4.4, R1: whatever is read of damaged bytes is written as the same bytes; all else is refused.
func TestWriteBack(t *testing.T) {
	source := rand.New(rand.NewPCG(4, 2))
	entries, commands := 0, 0
	for range 100000 {
		b := damaged(source, encoded(t, anyEntry(source)))
		if e, code := entry.Decode(b); code != api.OK {
			noEntry(t, "damaged", b)
		} else {
			entries++
			if again := encoded(t, e); !bytes.Equal(again, b) {
				t.Fatalf("% x is read as %+v, which is written as % x", b, e, again)
			}
		}
		d := damaged(source, written(t, anyCommand(source)))
		if c, code := entry.ReadCommand(d); code != api.OK {
			noCommand(t, "damaged", d)
		} else {
			commands++
			if again := written(t, c); !bytes.Equal(again, d) || !entry.Right(c) {
				t.Fatalf("% x is read as %+v, which is written as % x", d, c, again)
			}
		}
	}
	if entries < 1000 || commands < 1000 {
		t.Errorf("only %d entries and %d commands were read", entries, commands)
	}
}

// P4.4: with few values, so that many are near to each other, no encoding is a proper prefix of another one, and different values have different ones.
func TestNoPrefix(t *testing.T) {
	var entries, commands [][]byte
	lists := [][]string{nil, {""}, {"a"}, {"", ""}, {"a", ""}}
	for _, n := range []uint64{1, 256} {
		for _, data := range []string{"", "\x00", "\x01", "\x00\x00", "\x01\x00"} {
			for kind := range 3 {
				if b, code := entry.Encode(api.Entry{Index: n, Term: 1, Kind: kind, Data: []byte(data)}); code == api.OK {
					entries = append(entries, b)
				}
			}
		}
	}
	for _, name := range []string{"", "a", "\x00"} {
		for _, needs := range lists {
			x := api.Target{Name: name, Needs: needs}
			commands = append(commands, written(t, submit(x)), written(t, submit(x, x)), written(t, submit(x, api.Target{})))
		}
	}
	for kind := api.CmdOpen; kind <= api.CmdAdvance; kind++ {
		for _, c := range eachField(kind) {
			if b, code := entry.Command(c); code == api.OK {
				commands = append(commands, b)
			}
		}
	}
	for _, all := range [][][]byte{entries, commands} {
		slices.SortFunc(all, bytes.Compare)
		for i := 1; i < len(all); i++ {
			// A prefix precedes directly one of those that it is a prefix of.
			if len(all[i-1]) < len(all[i]) && bytes.HasPrefix(all[i], all[i-1]) {
				t.Errorf("% x is a prefix of % x", all[i-1], all[i])
			}
		}
	}
	if n := len(slices.CompactFunc(entries, bytes.Equal)); n != 22 {
		t.Errorf("%d different encodings of 22 entries", n)
	}
}
