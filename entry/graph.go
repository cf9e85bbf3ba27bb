package entry

import "dockyard/api"

// fits answers whether a graph is within the limits; whether it makes sense is for layer 7 to say.
func fits(g api.Graph) bool {
	if len(g.Targets) > api.MaxTargets {
		return false
	}
	for _, t := range g.Targets {
		if !targetFits(t) {
			return false
		}
	}
	return true
}

func targetFits(t api.Target) bool {
	if len(t.Name) > api.MaxName || len(t.Command) > api.MaxText || len(t.Needs) > api.MaxNeeds {
		return false
	}
	for _, need := range t.Needs {
		if len(need) > api.MaxName {
			return false
		}
	}
	return true
}
