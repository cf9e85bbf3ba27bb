package message

import (
	"dockyard/api"
	"dockyard/codec"
	"dockyard/config"
	"dockyard/entry"
)

// A pass does one thing with each field that it is led to, so that what is written, read and allowed of a kind of messages is told in one place.
type pass interface {
	long(n *uint64)
	flag(b *bool)
	entries(l *[]api.Entry)
	config(c *api.Config)
	data(b *[]byte)
}

// writing writes the fields of a message that is right.
type writing struct{ w *codec.Writer }

func (p writing) long(n *uint64) { p.w.Long(*n) }

func (p writing) flag(b *bool) {
	if *b {
		p.w.Byte(1)
	} else {
		p.w.Byte(0)
	}
}

func (p writing) entries(l *[]api.Entry) { codec.Put(p.w, *l, putEntry) }

func putEntry(w *codec.Writer, x api.Entry) {
	b, _ := entry.Encode(x)
	w.Text(b)
}

func (p writing) config(c *api.Config) {
	b, _ := config.Encode(*c)
	p.w.Text(b)
}

func (p writing) data(b *[]byte) { p.w.Text(*b) }

// reading fills the fields. What is not the encoding of one makes the reader fail.
type reading struct{ r *codec.Reader }

func (p reading) long(n *uint64) { *n = p.r.Long() }

func (p reading) flag(b *bool) {
	n := p.r.Byte()
	// No other byte: a message has one encoding.
	if n > 1 {
		p.r.Fail(api.ErrMessageForm)
	}
	*b = n == 1
}

func (p reading) entries(l *[]api.Entry) { *l = codec.List(p.r, api.MaxEntries, readEntry) }

func readEntry(r *codec.Reader) api.Entry {
	x, e := entry.Decode(readPart(r))
	r.Fail(e)
	return x
}

func (p reading) config(c *api.Config) {
	x, e := config.Decode(readPart(p.r))
	p.r.Fail(e)
	*c = x
}

// readPart reads the encoding of another layer, which sees to its length itself.
func readPart(r *codec.Reader) []byte { return r.Text(api.MaxFrame) }

func (p reading) data(b *[]byte) { *b = p.r.Text(api.MaxChunk) }

// clearing leaves those fields that a kind of messages must not have.
type clearing struct{}

func (clearing) long(n *uint64)         { *n = 0 }
func (clearing) flag(b *bool)           { *b = false }
func (clearing) entries(l *[]api.Entry) { *l = nil }
func (clearing) config(c *api.Config)   { *c = api.Config{} }
func (clearing) data(b *[]byte)         { *b = nil }
