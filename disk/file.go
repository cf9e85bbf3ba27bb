package disk

import "bytes"

// A file's first durable bytes survive every crash; those after them may be lost.
type file struct {
	bytes   []byte
	durable int
}

func (f *file) sync() { f.durable = len(f.bytes) }

func (f *file) truncate(n int) {
	f.bytes = f.bytes[:n]
	f.durable = min(f.durable, n)
}

func (f *file) clone() *file {
	return &file{bytes: bytes.Clone(f.bytes), durable: f.durable}
}

// crash answers what is found of f: its durable bytes, and at most so many more.
func (f *file) crash(more int) *file {
	loose := len(f.bytes) - f.durable
	left := f.clone()
	left.truncate(f.durable + min(max(more, 0), loose))
	left.sync()
	return left
}
