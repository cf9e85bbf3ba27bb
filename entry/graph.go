package entry

import (
	"dockyard/api"
	"dockyard/codec"
)

// fits answers whether a graph is within the limits; whether it makes sense is for layer 7 to say.
func fits(g api.Graph) bool {
	if len(g.Targets) > api.MaxTargets {
		return false
	}
	for _, t := range g.Targets {
		if !targetFits(t) {
			return false
		}
	}
	return true
}

func targetFits(t api.Target) bool {
	if len(t.Name) > api.MaxName || len(t.Command) > api.MaxText || len(t.Needs) > api.MaxNeeds {
		return false
	}
	for _, need := range t.Needs {
		if len(need) > api.MaxName {
			return false
		}
	}
	return true
}

func putGraph(w *codec.Writer, g api.Graph) {
	putText := func(w *codec.Writer, s string) { w.Text([]byte(s)) }
	codec.Put(w, g.Targets, func(w *codec.Writer, t api.Target) {
		putText(w, t.Name)
		putText(w, t.Command)
		codec.Put(w, t.Needs, putText)
	})
}

func readGraph(r *codec.Reader) api.Graph {
	readName := func(r *codec.Reader) string { return string(r.Text(api.MaxName)) }
	targets := codec.List(r, api.MaxTargets, func(r *codec.Reader) api.Target {
		return api.Target{
			Name:    readName(r),
			Command: string(r.Text(api.MaxText)),
			Needs:   codec.List(r, api.MaxNeeds, readName),
		}
	})
	return api.Graph{Targets: targets}
}
