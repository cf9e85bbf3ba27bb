package codec

import (
	"iter"

	"dockyard/api"
)

// Put writes how many elements l has, and each of them by one.
func Put[T any](w *Writer, l []T, one func(w *Writer, x T)) {
	w.Var(uint64(len(l)))
	for _, x := range l {
		one(w, x)
	}
}

// List reads all that Put wrote, each element by one, or nothing if r fails.
func List[T any](r *Reader, most int, one func(r *Reader) T) []T {
	// Grown step by step: the count is not to be trusted with memory ahead of the elements.
	var l []T
	for _, x := range Items(r, most, one) {
		l = append(l, x)
	}
	if r.Err() != api.OK {
		return nil
	}
	return l
}

// Items reads what Put wrote one by one, as far as the loop goes and r does not fail.
func Items[T any](r *Reader, most int, one func(r *Reader) T) iter.Seq2[int, T] {
	return func(yield func(int, T) bool) {
		n := r.count(most)
		// The body of the loop may make r fail too: then one is not called again.
		for i := 0; i < n && r.Err() == api.OK; i++ {
			x := one(r)
			if r.Err() != api.OK || !yield(i, x) {
				return
			}
		}
	}
}
