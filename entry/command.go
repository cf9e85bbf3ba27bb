package entry

import (
	"dockyard/api"
	"dockyard/codec"
	"dockyard/targets"
)

// Command answers a command as bytes.
func Command(c api.Command) ([]byte, api.Errno) {
	if !Right(c) {
		return nil, api.ErrEntryForm
	}
	w := codec.New()
	w.Byte(byte(c.Kind))
	putFields(w, c)
	return w.Bytes(), api.OK
}

// ReadCommand answers the command that Command writes as b.
func ReadCommand(b []byte) (api.Command, api.Errno) {
	r := codec.Read(b)
	c := readFields(r, int(r.Byte()))
	if r.End() != api.OK || !Right(c) {
		return api.Command{}, api.ErrEntryForm
	}
	return c, api.OK
}

// Right answers whether a command can be written.
func Right(c api.Command) bool {
	f, there := fieldsOf(c.Kind)
	return there &&
		(f.session || c.Session == 0) &&
		(f.seq || c.Seq == 0) &&
		(f.graph || len(c.Graph.Targets) == 0) &&
		(f.id || c.Id == 0) &&
		(f.token || c.Token == 0) &&
		(f.good || !c.Good) &&
		(f.time || c.Time == 0) &&
		fits(c.Graph)
}

// fields says which fields a kind of commands has. No kind writes them in another order than this one.
type fields struct {
	session, seq, graph, id, token, good, time bool
}

// fieldsOf answers the fields of a kind, and whether there is such a kind.
func fieldsOf(kind int) (fields, bool) {
	var f fields
	switch kind {
	case api.CmdOpen:
		return fields{session: true}, true
	case api.CmdAdvance:
		return fields{time: true}, true
	case api.CmdSubmit:
		f.graph = true
	case api.CmdCancel:
		f.id = true
	case api.CmdReport:
		f.good = true
		fallthrough
	case api.CmdRenew:
		f.token = true
	case api.CmdClaim:
	default:
		return fields{}, false
	}
	// The kinds that come here are the numbered ones of a session.
	f.session, f.seq = true, true
	return f, true
}

func putFields(w *codec.Writer, c api.Command) {
	f, _ := fieldsOf(c.Kind)
	putLong(w, f.session, c.Session)
	putLong(w, f.seq, c.Seq)
	if f.graph {
		targets.Put(w, c.Graph.Targets)
	}
	putLong(w, f.id, c.Id)
	putLong(w, f.token, c.Token)
	if f.good {
		putBool(w, c.Good)
	}
	putLong(w, f.time, c.Time)
}

func readFields(r *codec.Reader, kind int) api.Command {
	f, _ := fieldsOf(kind)
	c := api.Command{Kind: kind}
	c.Session = readLong(r, f.session)
	c.Seq = readLong(r, f.seq)
	if f.graph {
		c.Graph.Targets = targets.List(r)
	}
	c.Id = readLong(r, f.id)
	c.Token = readLong(r, f.token)
	if f.good {
		c.Good = readBool(r)
	}
	c.Time = readLong(r, f.time)
	return c
}

func putLong(w *codec.Writer, there bool, n uint64) {
	if there {
		w.Long(n)
	}
}

func readLong(r *codec.Reader, there bool) uint64 {
	if !there {
		return 0
	}
	return r.Long()
}

func putBool(w *codec.Writer, b bool) {
	if b {
		w.Byte(1)
	} else {
		w.Byte(0)
	}
}

// readBool takes no other byte than 0 and 1: a command has one encoding.
func readBool(r *codec.Reader) bool {
	b := r.Byte()
	if b > 1 {
		r.Fail(api.ErrEntryForm)
	}
	return b == 1
}
