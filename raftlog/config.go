package raftlog

import (
	"iter"

	"dockyard/api"
	"dockyard/config"
)

// Config answers the last configuration, and the index from which on it holds.
func (l *Log) Config() (api.Config, uint64) { return l.configUpTo(l.Last()) }

// ConfigAt answers the last configuration of the entries up to an index.
func (l *Log) ConfigAt(index uint64) api.Config {
	c, _ := l.configUpTo(index)
	return c
}

// configUpTo looks through the entries each time: so it holds whatever becomes of them.
func (l *Log) configUpTo(index uint64) (api.Config, uint64) {
	c, at := cloned(l.begin.Config), l.begin.Index
	for e := range configs(l.wal.All(l.First())) {
		if e.Index > index {
			break
		}
		// It has no error: what can't be read has not come into the log.
		c, _ = config.Decode(e.Data)
		at = e.Index
	}
	return c, at
}

// configs yields the entries that hold a configuration.
func configs(entries iter.Seq[api.Entry]) iter.Seq[api.Entry] {
	return func(yield func(api.Entry) bool) {
		for e := range entries {
			if e.Kind == api.EntryConfig && !yield(e) {
				return
			}
		}
	}
}

// readable tells whether the configurations among entries can be read.
func readable(entries iter.Seq[api.Entry]) api.Errno {
	for e := range configs(entries) {
		if _, code := config.Decode(e.Data); code != api.OK {
			return code
		}
	}
	return api.OK
}
