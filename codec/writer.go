package codec

import "bytes"

// Writer gathers bytes.
type Writer struct {
	written []byte
}

// New answers a writer that has none.
func New() *Writer {
	return &Writer{}
}

// Byte writes one byte.
func (w *Writer) Byte(b byte) {
	w.written = append(w.written, b)
}

// Word writes n in 4 bytes.
func (w *Writer) Word(n uint32) {
	w.number(uint64(n), 4)
}

// Long writes n in 8 bytes.
func (w *Writer) Long(n uint64) {
	w.number(n, 8)
}

// Var writes n in as few bytes as its size allows.
func (w *Writer) Var(n uint64) {
	first := firstOfVar(n)
	w.Byte(first)
	w.number(n, following(first))
}

// Raw writes b without its length: a reader must know it.
func (w *Writer) Raw(b []byte) {
	w.written = append(w.written, b...)
}

// Text writes b behind its length.
func (w *Writer) Text(b []byte) {
	w.Var(uint64(len(b)))
	w.Raw(b)
}

// Bytes answers a copy of all that was written.
func (w *Writer) Bytes() []byte {
	return bytes.Clone(w.written)
}

// Len answers how many bytes were written.
func (w *Writer) Len() int {
	return len(w.written)
}

// number writes the lowest bytes of n, the most significant one first.
func (w *Writer) number(n uint64, size int) {
	for i := size - 1; i >= 0; i-- {
		w.Byte(byte(n >> (8 * i)))
	}
}
