package message

import (
	"math"

	"dockyard/api"
	"dockyard/config"
	"dockyard/entry"
)

// Right answers whether a message can be written.
func Right(m api.Message) bool {
	return rightHead(m) && bare(m) && rightEntries(m) && (m.Kind != api.MsgChunk || rightChunk(m))
}

// rightHead answers whether the fields that every message has are right, but for the kind.
func rightHead(m api.Message) bool {
	return isNode(m.From) && isNode(m.To) && m.From != m.To && m.Term != 0
}

func isNode(n int) bool { return n >= 0 && n < api.MaxNodes }

// bare answers whether a message is of some kind, and has no fields but those of its kind.
func bare(m api.Message) bool {
	visit, there := fieldsOf(m.Kind)
	if !there {
		return false
	}
	visit(clearing{}, &m)
	return m.Index == 0 && m.LogTerm == 0 && m.Commit == 0 && m.Round == 0 && !m.Good &&
		len(m.Entries) == 0 && len(m.Config.Voters) == 0 && len(m.Config.Learners) == 0 &&
		m.Offset == 0 && m.Whole == 0 && len(m.Data) == 0
}

// rightEntries answers whether the entries of a message can be written and follow its Index.
func rightEntries(m api.Message) bool {
	if len(m.Entries) > api.MaxEntries {
		return false
	}
	for i, x := range m.Entries {
		// Behind the greatest index comes 0, which is that of no entry and so is refused with it.
		if x.Index != m.Index+1+uint64(i) || x.Term > m.Term {
			return false
		}
		if _, e := entry.Encode(x); e != api.OK {
			return false
		}
	}
	return true
}

// rightChunk answers whether a piece of a snapshot is of one that there can be, and within it.
func rightChunk(m api.Message) bool {
	if m.Index == 0 || m.Index == math.MaxUint64 || m.LogTerm == 0 || config.Check(m.Config) != api.OK {
		return false
	}
	if m.Whole > api.MaxSnap || m.Offset > m.Whole || len(m.Data) > api.MaxChunk {
		return false
	}
	left := m.Whole - m.Offset
	return uint64(len(m.Data)) <= left && (len(m.Data) > 0 || left == 0)
}
