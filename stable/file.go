package stable

import (
	"strconv"
	"strings"

	"dockyard/api"
	"dockyard/codec"
)

const (
	voteFile = "vote"
	// What is being written stands in a file of its own, so that a crash leaves what was there before.
	newVote = "vote.new"
	newSnap = "snap.new"

	prefix = "snap."
	digits = 16
)

// snapFile answers the name of the file of the snapshot with an index.
func snapFile(index uint64) string {
	s := strconv.FormatUint(index, 16)
	return prefix + strings.Repeat("0", digits-len(s)) + s
}

// isSnapFile answers whether a file has the name of a snapshot, be it valid or not.
func isSnapFile(name string) bool {
	number, is := strings.CutPrefix(name, prefix)
	return is && len(number) == digits && strings.Trim(number, "0123456789abcdef") == ""
}

// framed answers a file of these parts.
func framed(parts ...any) ([]byte, api.Errno) {
	w := codec.New()
	for _, part := range parts {
		put(w, part)
	}
	return codec.Frame(w.Bytes())
}

// put writes a part of a file: its type tells how.
func put(w *codec.Writer, part any) {
	switch x := part.(type) {
	case uint64:
		w.Long(x)
	case int:
		w.Byte(byte(x))
	case []int:
		w.Byte(byte(len(x)))
		for _, n := range x {
			put(w, n)
		}
	case []byte:
		w.Raw(x)
	}
}

// unframed answers a reader of what a file's frame holds: of nothing, if the file is not just a frame.
func unframed(b []byte) *codec.Reader {
	inside, size, _ := codec.Unframe(b)
	if size != len(b) {
		return codec.Read(nil)
	}
	return codec.Read(inside)
}

// readVote answers the vote of a file, and whether the file is valid.
func readVote(b []byte) (api.Vote, bool) {
	r := unframed(b)
	v := api.Vote{Term: r.Long(), For: int(r.Byte()) - 1}
	return v, r.End() == api.OK && rightVote(v)
}

// readSnapshot answers the snapshot of a file with this name, and whether the file is valid.
func readSnapshot(name string, b []byte) (api.Snapshot, bool) {
	r := unframed(b)
	x := api.Snapshot{Index: r.Long(), Term: r.Long()}
	x.Config.Voters = nodes(r)
	x.Config.Learners = nodes(r)
	x.Data = r.Raw(r.Left())
	return x, r.End() == api.OK && rightSnapshot(x) && name == snapFile(x.Index)
}

// nodes reads a list of nodes.
func nodes(r *codec.Reader) []int {
	var l []int
	for range r.Byte() {
		l = append(l, int(r.Byte()))
	}
	return l
}
