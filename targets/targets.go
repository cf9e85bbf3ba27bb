// Package targets writes and reads the targets of a graph, which stand in a command and in an image of the queue in the same way: see shared/doc/04-entry.md.
package targets

import (
	"dockyard/api"
	"dockyard/codec"
)

// Put writes targets.
func Put(w *codec.Writer, l []api.Target) {
	putText := func(w *codec.Writer, s string) { w.Text([]byte(s)) }
	codec.Put(w, l, func(w *codec.Writer, t api.Target) {
		putText(w, t.Name)
		putText(w, t.Command)
		codec.Put(w, t.Needs, putText)
	})
}

// List reads what Put wrote, as far as it is within the limits of a graph; otherwise r fails.
func List(r *codec.Reader) []api.Target {
	readName := func(r *codec.Reader) string { return string(r.Text(api.MaxName)) }
	return codec.List(r, api.MaxTargets, func(r *codec.Reader) api.Target {
		return api.Target{
			Name:    readName(r),
			Command: string(r.Text(api.MaxText)),
			Needs:   codec.List(r, api.MaxNeeds, readName),
		}
	})
}
