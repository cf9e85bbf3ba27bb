package message

import "dockyard/api"

// fields goes through the fields that a kind of messages has of its own, in the order of their encoding.
type fields func(p pass, m *api.Message)

// fieldsOf answers the fields of a kind, and false if there is no such kind.
func fieldsOf(kind int) (fields, bool) {
	table := map[int]fields{
		api.MsgPrevote:  endOfLog,
		api.MsgPrevoted: consent,
		api.MsgVote:     endOfLog,
		api.MsgVoted:    consent,
		api.MsgAppend:   entriesSent,
		api.MsgAppended: entriesTaken,
		api.MsgChunk:    chunkSent,
		api.MsgChunked:  chunkTaken,
	}
	visit, there := table[kind]
	return visit, there
}

func endOfLog(p pass, m *api.Message) {
	p.long(&m.Index)
	p.long(&m.LogTerm)
}

func consent(p pass, m *api.Message) { p.flag(&m.Good) }

func entriesSent(p pass, m *api.Message) {
	p.long(&m.Index)
	p.long(&m.LogTerm)
	p.long(&m.Commit)
	p.long(&m.Round)
	p.entries(&m.Entries)
}

func entriesTaken(p pass, m *api.Message) {
	p.flag(&m.Good)
	p.long(&m.Index)
	p.long(&m.Round)
}

func chunkSent(p pass, m *api.Message) {
	p.long(&m.Index)
	p.long(&m.LogTerm)
	p.config(&m.Config)
	p.long(&m.Offset)
	p.long(&m.Whole)
	p.data(&m.Data)
}

func chunkTaken(p pass, m *api.Message) {
	p.long(&m.Index)
	p.long(&m.Offset)
}
