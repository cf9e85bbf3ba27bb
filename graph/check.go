package graph

import (
	"slices"

	"dockyard/api"
)

// Check tells whether a graph is valid.
func Check(g api.Graph) api.Errno {
	switch {
	case !fits(g):
		return api.ErrGraphLong
	case !formed(g):
		return api.ErrGraphForm
	case !closed(g):
		return api.ErrGraphNeed
	case len(arranged(g)) < len(g.Targets):
		return api.ErrGraphCycle
	}
	return api.OK
}

// fits answers whether a graph is within the limits. The length of a need has no limit of its own: one that is too long is no target's name.
func fits(g api.Graph) bool {
	if len(g.Targets) > api.MaxTargets {
		return false
	}
	for _, t := range g.Targets {
		if len(t.Name) > api.MaxName || len(t.Command) > api.MaxText || len(t.Needs) > api.MaxNeeds {
			return false
		}
	}
	return true
}

// formed answers whether there are targets, all with names of their own, and each of them right if it is looked at alone.
func formed(g api.Graph) bool {
	for place, t := range g.Targets {
		first, _ := Find(g, t.Name)
		if first != place || !isName(t.Name) || !isCommand(t.Command) || repeats(t.Needs) {
			return false
		}
	}
	return len(g.Targets) > 0
}

// isName goes by runes where the document goes by bytes: what is no ASCII is a rune beyond '~', be it valid or not.
func isName(s string) bool {
	for _, r := range s {
		if r <= ' ' || r > '~' || r == ':' {
			return false
		}
	}
	return s != ""
}

func isCommand(s string) bool {
	for _, r := range s {
		if r < ' ' || r > '~' {
			return false
		}
	}
	return true
}

func repeats(needs []string) bool {
	for i, need := range needs {
		if slices.Contains(needs[:i], need) {
			return true
		}
	}
	return false
}

// closed answers whether all needs are targets.
func closed(g api.Graph) bool {
	for place, t := range g.Targets {
		if len(Needs(g, place)) < len(t.Needs) {
			return false
		}
	}
	return true
}
